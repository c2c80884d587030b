/- madeAll: the values of a row of descriptors. -/
import Derived.Test.YtjphklhfigammaaDoorVVal
namespace Go.Proofs.YtjphklhfigammaaDoor
open Go.RowKit
set_option linter.unusedVariables false

set_option maxRecDepth 1000000 in
set_option maxHeartbeats 4000000 in
theorem madeall_any (sr : List D → List (D × D)) (tw : D → Bool) (n : Nat) (l : List D) (a : Option Addr) (cap : Nat) (w : World) (h1 : l.length ≤ cap) (h2 : cap ≤ maxLen) (h64 : l.length ≤ 1000)
    (hcell : ∀ (i : Nat) (x : D), l[i]? = some x → ∃ b off nv' pv', a = some ⟨b, off, none⟩ ∧ At8 w b (off + i * 8) x nv' pv' ∧ RdC n w nv' pv' x) (hm : ∀ x ∈ l, MadeC sr tw n w x) :
    Calls Tryd.prog 53 #[.slice a l.length cap] w fun e W' => Below w.heap.size w W' ∧
      ((l.any tw = false ∧ ∃ fa fc, e = .returned (.slice fa l.length fc) ∧ l.length ≤ fc ∧ fc ≤ maxLen ∧ Vals (VlC sr n (fun b => w.heap.size ≤ b) W') (fun b => w.heap.size ≤ b) W' fa l) ∨ (l.any tw = true ∧ e = .panicked (PE 5))) := by
  obtain ⟨i0, hi⟩ : ∃ i0, Tryd.prog.info? 28 = some i0 := ⟨_, rfl⟩
  have hz0 : i0.zero = some .nilIface := by
    have : (Tryd.prog.info? 28).map (·.zero) = some (some .nilIface) := by kernel_rfl
    rw [hi] at this; exact Option.some.inj this
  have hz1 : i0.size = 1 := by
    have : (Tryd.prog.info? 28).map (·.size) = some 1 := by kernel_rfl
    rw [hi] at this; exact Option.some.inj this
  have hz2 : i0.bytes = 16 := by
    have : (Tryd.prog.info? 28).map (·.bytes) = some 16 := by kernel_rfl
    rw [hi] at this; exact Option.some.inj this
  go_enter Tryd.func53, Tryd.ntmps53
  go_wp2
  go_loopg [3, 5, 8] l.length (fun gg sv z i wr => ∃ (j c : Nat) (ao : Option Addr) (us : List Value), sv = .slice ao j c ∧ i = .int .i64 j ∧ j + gg = l.length ∧ wr.ownsRow w.heap.size 28 1 (.slice ao j c) j us ∧ Below w.heap.size w wr ∧ Hid ((l.take j).any tw = false) ∧ Hid (∀ (q : Nat) (u : Value) (y : D), us[q]? = some u → l[q]? = some y → (∃ t x, u = .iface t x) ∧ VlC sr n (fun b => w.heap.size ≤ b ∧ Value.ownBlock (.slice ao j c) ≠ some b) wr u y))
  case atStart => exact ⟨0, 0, none, [], rfl, rfl, Nat.zero_add _, World.ownsRow_nil _ _ _ _, Below.refl _ _, rfl, fun q u y h => by simp at h⟩
  case round =>
    obtain ⟨j, c, ao, us, rfl, rfl, hjg, hown, hbl, HT, HV⟩ := hrel
    by_cases hlt : j < l.length
    · have hltI : (j : Int) < l.length := by omega
      obtain ⟨x, hx⟩ : ∃ x, l[j]? = some x := ⟨l[j], List.getElem?_eq_getElem hlt⟩
      obtain ⟨b, off, nv', pv', rfl, h8, hr'⟩ := hcell j x hx
      obtain ⟨na', nc', pa', pc', rfl, rfl⟩ := hr'.slices
      obtain ⟨c0, c1, c2, c3, c4, c5, c6, c7⟩ := h8.up hbl
      obtain ⟨Y2, hY2⟩ : ∃ Y2, Y2 = wr.alloc (.cells #[.int .i64 x.kind, .string x.ty, .int .u64 x.bits, .int .u64 x.imag, .string x.text, .slice na' x.names.length nc', .slice pa' x.parts.length pc', .int .i64 x.hook] 26) := ⟨_, rfl⟩
      have hbY : Below wr.heap.size wr Y2 := by rw [hY2]; exact (Below.refl _ _).alloc (Nat.le_refl _) _
      obtain ⟨C2, hC2⟩ : ∃ C2 : Cl w, C2.w = Y2 := ⟨⟨Y2, hbl.trans (hbY.mono hbl.size)⟩, rfl⟩
      have hrec := hm x (List.mem_of_getElem? hx) _ _ C2 hr'
      rw [hC2] at hrec
      have HN : Hid ((l.take (j + 1)).any tw = ((l.take j).any tw || tw x)) := by
        show _ = _
        rw [List.take_add_one, hx]; simp
      have HX : Hid (tw x = true → l.any tw = true) := fun h => List.any_eq_true.2 ⟨x, List.mem_of_getElem? hx, h⟩
      have hsz := hbl.size
      have hszY := hbY.size
      have Hx : Hid (l[j]? = some x) := hx
      clear hx h8 hr' hcell hm
      go_wp2_with fail
      rw [← hY2]
      refine hrec.mono ?_
      rintro e Z ⟨hbZ, (⟨htw, t, y, rfl, hvl⟩ | ⟨htw, rfl⟩)⟩
      · have hwZ : Below wr.heap.size wr Z := hbY.trans (hbZ.mono hszY)
        have hownZ := own_up8 hown hwZ
        have hzZ := hwZ.size
        have hoz := own_lt8 hown
        clear hbZ hrec c0 c1 c2 c3 c4 c5 c6 c7
        go_wp2_with (at_builtin; refine wpList_append_own_at _ rfl _ _ 56 rfl w.heap.size 28 i0 .nilIface 1 16 Tryd.underlying56 hi hz0 hz1 hz2 rfl (by decide) _ _ _ rfl (hownZ.alloc _) ⟨Z.heap.size, 0, none⟩ 1 1 [.iface t y] rfl rfl ?c1 ?c2 ?c3 ?c4 ?c5 ?_)
        case c1 =>
          intro j u hj
          match j, hj with
          | 0, hj => simp at hj; subst hj; simp [Addr.add]
        case c2 => intro u hu; simp at hu; subst hu; rfl
        case c3 => unfold maxLen; omega
        case c4 => omega
        case c5 => simp; omega
        intro v' w1 hown' hgrow _ hat
        obtain ⟨ao', c', rfl, -, -⟩ := own_slice8 hown'
        have hge := own_ge8 hown
        have hb1 : Below w.heap.size w w1 := ((hbl.trans (hwZ.mono hsz)).alloc (by omega) _).grown hgrow (by simp; omega) hge
        have hkept : ∀ S : Nat → Prop, (∀ b, S b → w.heap.size ≤ b ∧ Value.ownBlock (.slice ao j c) ≠ some b) → Kept S (fun b => w.heap.size ≤ b ∧ Value.ownBlock (.slice ao' (j + 1) c') ≠ some b) Z w1 := by
          intro S hS b hb hlZ
          obtain ⟨s1, s2⟩ := hS b hb
          refine ⟨⟨s1, ?_⟩, fun o => ?_⟩
          · rcases hat with hat | hat
            · rw [hat]; exact s2
            · rw [hat]
              intro h
              have h3 := Option.some.inj h
              omega
          · exact (World.cell?_of_block (w := Z.alloc (.cells #[.iface t y] 28)) (a := ⟨b, o, none⟩) (hgrow.block b (by simp; omega) (Ne.symm s2))).trans (World.cell?_of_block (w := Z) (a := ⟨b, o, none⟩) (Below.heap_alloc _ _ _ hlZ))
        have HV2 : Hid (∀ (q : Nat) (u : Value) (z : D), (us ++ [.iface t y])[q]? = some u → l[q]? = some z → (∃ t x, u = .iface t x) ∧ VlC sr n (fun b => w.heap.size ≤ b ∧ Value.ownBlock (.slice ao' (j + 1) c') ≠ some b) w1 u z) := by
          intro q u z hq hz
          have hul : us.length = j := by have := hown.1; omega
          by_cases hqj : q < j
          · rw [List.getElem?_append_left (by omega)] at hq
            obtain ⟨e1, e2⟩ := HV.out q u z hq hz
            refine ⟨e1, (e2.turn (Kept.below hwZ fun b hb _ => hb)).turn (hkept _ fun b hb => hb)⟩
          · have hqe : q = j := by
              have := (List.getElem?_eq_some_iff.1 hq).1
              simp at this; omega
            subst hqe
            rw [List.getElem?_append_right (by omega), hul] at hq
            simp at hq
            subst hq
            rw [Hx.out] at hz
            obtain rfl := Option.some.inj hz
            refine ⟨⟨_, _, rfl⟩, hvl.turn (hkept _ fun b hb => ⟨by omega, fun h => ?_⟩)⟩
            have := hoz b h
            omega
        have HT2 : Hid ((l.take (j + 1)).any tw = false) := by show _ = _; rw [HN.out, HT.out, htw]; rfl
        have hown2 := hown'
        clear hown' hgrow hat hkept HV HT HN HX hvl hownZ hown hoz hge Hx
        go_wp2
        go_roundg (gk - 1)
        case measure => omega
        case rel => exact ⟨j + 1, c', ao', us ++ [.iface t y], rfl, by go_num, by omega, hown2, hb1, HT2, HV2⟩
      · exact ⟨rfl, hbl.trans ((hbY.trans (hbZ.mono hszY)).mono hsz), .inr ⟨HX.out htw, rfl⟩⟩
    · have hltI : ¬ (j : Int) < l.length := by omega
      have hj : j = l.length := by omega
      subst hj
      obtain ⟨ao', c', he, k1, k2⟩ := own_slice8 hown
      obtain ⟨rfl, -, rfl⟩ := Value.slice.inj he
      have HF : Hid (l.any tw = false) := by
        have := HT.out
        rw [List.take_length] at this
        exact this
      have HR : Hid (Vals (VlC sr n (fun b => w.heap.size ≤ b) wr) (fun b => w.heap.size ≤ b) wr ao l) := by
        intro i y hy
        have hil : i < l.length := (List.getElem?_eq_some_iff.1 hy).1
        have hul : us.length = l.length := by have := hown.1; omega
        obtain ⟨u, hu⟩ : ∃ u, us[i]? = some u := ⟨us[i], List.getElem?_eq_getElem (by omega)⟩
        obtain ⟨⟨t, x, rfl⟩, e2⟩ := HV.out i u y hu hy
        rcases hown.2 with ⟨-, h0⟩ | ⟨g, cap', cur, hg1, hB, hg, -⟩
        · omega
        · obtain ⟨rfl, -, -⟩ := Value.slice.inj hg1
          refine ⟨g, 0, t, x, rfl, hB, ?_, e2.turn fun b hb _ => ⟨hb.1, fun _ => rfl⟩⟩
          rw [Nat.zero_add, hown.cellAt i (by omega), hu]
      clear he HV HT hown hm hcell
      go_wp2
      go_ret
      exact ⟨hbl, .inl ⟨by simpa using HF.out, ao, c, rfl, k1, k2, HR.out⟩⟩
end Go.Proofs.YtjphklhfigammaaDoor
