/- VWalkD, VCheck: these texts in one. -/
import Derived.Test.YtdlnmnipnkeabaaGreatDoorPt7
import Derived.Shelf.Abstract
import Derived.RowKit3
namespace Go.Proofs.YtdlnmnipnkeabaaGreatDoor
open Go.RowKit
set_option linter.unusedVariables false
def Keep (c : Nat) (W W' : World) : Prop := W.heap.size ≤ W'.heap.size ∧ ∀ p : Addr, p.block < W.heap.size → p.block ≠ c → W'.cell? p = W.cell? p
theorem Keep.refl (c : Nat) (W : World) : Keep c W W := ⟨Nat.le_refl _, fun _ _ _ => rfl⟩
theorem Keep.trans {c : Nat} {W W' W'' : World} (h : Keep c W W') (h' : Keep c W' W'') : Keep c W W'' :=
 ⟨Nat.le_trans h.1 h'.1, fun p hp hc => (h'.2 p (by have := h.1; omega) hc).trans (h.2 p hp hc)⟩
theorem Keep.of {c : Nat} {W W' : World} (h : Below W.heap.size W W') : Keep c W W' := ⟨h.size, fun p hp _ => h.cell hp⟩
theorem lt_of_cell {W : World} {p : Addr} {v : Value} (h : W.cell? p = some v) : p.block < W.heap.size := by
 rcases Nat.lt_or_ge p.block W.heap.size with h1 | h1
 ·exact h1
 ·simp [World.cell?, Array.getElem?_eq_none h1] at h
theorem Keep.cell {c : Nat} {W W' : World} (h : Keep c W W') {p : Addr} {v : Value} (hp : W.cell? p = some v) (hc : p.block ≠ c) : W'.cell? p = some v :=
 (h.2 p (lt_of_cell hp) hc).trans hp
theorem cs_same8 (W : World) (a : Addr) (v : Value) (h : (W.cell? a).isSome = true) : (W.setCell a v).cell? a = some v := by
 obtain ⟨u, hu⟩ := Option.isSome_iff_exists.1 h
 exact World.cell?_setCell_same _ _ _ hu
def Num (W : World) (c : Nat) (s : Int) : Prop := W.cell? ⟨c, 0, none⟩ = some (.int .i64 s) ∧ W.frozen? ⟨c, 0, none⟩ = false
theorem Num.up {W W' : World} {c : Nat} {s : Int} (h : Num W c s) (hb : Below W.heap.size W W') : Num W' c s :=
 ⟨up_cell hb h.1, (hb.frozen (p := ⟨c, 0, none⟩) (lt_of_cell h.1)).trans h.2⟩
theorem Num.put {W : World} {c : Nat} {s : Int} (h : Num W c s) (s' : Int) : Num (W.setCell ⟨c, 0, none⟩ (.int .i64 s')) c s' := by
 refine ⟨?_, (World.frozen?_setCell _ _ _ _).trans h.2⟩
 exact cs_same8 W _ _ (by rw [h.1]; rfl)
def runV (ok : Int → D → Int → Bool) (inc : Int) : Int → List (D × Int) → Option Int
 | s, [] => some s
 | s, (d, k) :: l => if ok s d k then runV ok inc (s + inc) l else none
theorem runV_append (ok : Int → D → Int → Bool) (inc : Int) : ∀ (l l' : List (D × Int)) (s : Int), runV ok inc s (l ++ l') = (runV ok inc s l).bind fun s' => runV ok inc s' l'
 | [], l', s => rfl
 | (d, k) :: l, l', s => by
   simp only [List.cons_append, runV]
   split
   ·exact runV_append ok inc l l' (s + inc)
   ·rfl
def Look (w0 : World) (c g : Nat) (cb : Array Value) (ok : Int → D → Int → Bool) (inc err : Int) : Prop :=
 ∀ (W : Cl w0) (s : Int) (d : D) (na pa : Option Addr) (nc pc : Nat) (k : Int) (n : Nat), Num W.w c s → 0 ≤ s → s ≤ 1000 → RdC n w0 (.slice na d.names.length nc) (.slice pa d.parts.length pc) d →
   Calls Tryz.prog g (#[DV d (.slice na d.names.length nc) (.slice pa d.parts.length pc), .int .i64 k] ++ cb) W.w fun e w' => ∃ W' : Cl w0, w' = W'.w ∧ Keep c W.w W'.w ∧
    ((ok s d k = true ∧ e = .returned (.tuple #[]) ∧ Num W'.w c (s + inc)) ∨ (ok s d k = false ∧ e = .panicked (PE err)))
set_option maxRecDepth 1000000 in
set_option maxHeartbeats 4000000 in
theorem walk_any (w0 : World) (c g : Nat) (cb : Array Value) (ok : Int → D → Int → Bool) (inc err : Int) (hc : w0.heap.size ≤ c) (hlook : Look w0 c g cb ok inc err) (hin : ∀ s d k, ok s d k = true → 0 ≤ s → s ≤ 1000 → 0 ≤ s + inc ∧ s + inc ≤ 1000) (eg : ∀ args w, (callFunc g args).run Tryz.prog w = .ok (.enter g args) w) :
  ∀ (n : Nat) (W : Cl w0) (s : Int) (d : D) (nv pv : Value) (k : Int), Num W.w c s → 0 ≤ s → s ≤ 1000 → RdC n w0 nv pv d → 0 ≤ k → k + n ≤ 1000000 →
  Calls Tryz.prog 87 #[DV d nv pv, .int .i64 k, .func (.func g) #[] cb] W.w fun e w' => ∃ W' : Cl w0, w' = W'.w ∧ Keep c W.w W'.w ∧
   ((∃ s', runV ok inc s (pre d k) = some s' ∧ e = .returned (.tuple #[]) ∧ Num W'.w c s' ∧ 0 ≤ s' ∧ s' ≤ 1000) ∨ (runV ok inc s (pre d k) = none ∧ e = .panicked (PE err))) := by
 intro n
 induction n with
 | zero => intro W s d nv pv k _ _ _ h; exact h.elim
 | succ n ih =>
   intro W s d nv pv k hs hz0 hz1 hr hk0 hkn
   obtain ⟨na, nc, pa, pc, rfl, rfl⟩ := hr.slices
   have hpre := pre_eq d k
   obtain ⟨W1, hW1⟩ : ∃ W1, W1 = W.w.alloc (.cells #[.int .i64 d.kind, .string d.ty, .int .u64 d.bits, .int .u64 d.imag, .string d.text, .slice na d.names.length nc, .slice pa d.parts.length pc, .int .i64 d.hook] 29) := ⟨_, rfl⟩
   have hb1 : Below W.w.heap.size W.w W1 := by rw [hW1]; exact (Below.refl _ _).alloc (Nat.le_refl _) _
   have hcW : c < W.w.heap.size := lt_of_cell hs.1
   obtain ⟨C1, hC1⟩ : ∃ C1 : Cl w0, C1.w = W1 := ⟨⟨W1, W.below.trans (hb1.mono W.below.size)⟩, rfl⟩
   have hs1 : Num C1.w c s := by rw [hC1]; exact hs.up hb1
   have hv := hlook C1 s d na pa nc pc k (n + 1) hs1 hz0 hz1 hr
   rw [hC1] at hv
   have hkp1 : Keep c W.w W1 := Keep.of hb1
   have hbx : ∀ (x : Cl w0), Keep c W1 x.w → x.w.cell? ⟨W.w.heap.size, 0, none⟩ = some (.int .i64 d.kind) ∧ x.w.cell? ⟨W.w.heap.size, 6, none⟩ = some (.slice pa d.parts.length pc) := fun x hx =>
    ⟨hx.cell (by rw [hW1]; simp) (by show W.w.heap.size ≠ c; omega), hx.cell (by rw [hW1]; simp) (by show W.w.heap.size ≠ c; omega)⟩
   have hgr := fun W => hasparts_any d.kind W
   go_enter Tryz.func87, Tryz.ntmps87
   go_wp2_with fail
   rw [← hW1]
   refine hv.mono ?_
   rintro e w1 ⟨V, rfl, hK, (⟨hok, rfl, hs2⟩ | ⟨hno, rfl⟩)⟩
   ·obtain ⟨f0, f6⟩ := hbx V hK
    cases hgB : great d.kind with
    | false =>
      have HR : Hid (runV ok inc s (pre d k) = some (s + inc)) := by show _ = _; rw [hpre, hgB]; simp [runV, hok]
      rw [hgB] at hgr
      go_wp2_with (go_at_call 118; refine (hgr _).mono ?_; rintro e w1 ⟨rfl, rfl⟩)
      refine bodyPost_ret (results_none rfl _ _ _) rfl ?_
      exact ⟨V, rfl, hkp1.trans hK, .inl ⟨_, HR.out, rfl, hs2, hin s d k hok hz0 hz1⟩⟩
    | true =>
      have HP : Hid (runV ok inc s (pre d k) = runV ok inc (s + inc) (preAll d.parts (k + 1))) := by show _ = _; rw [hpre, hgB]; simp [runV, hok]
      rw [hgB] at hgr
      clear hpre hgB
      obtain ⟨-, -, a, cap, hsl, hl1, hl2, hcell⟩ := hr
      obtain ⟨rfl, -, rfl⟩ := Value.slice.inj hsl
      unfold maxLen at hl2
      go_wp2_with (go_at_call 118; refine (hgr _).mono ?_; rintro e w1 ⟨rfl, rfl⟩)
      go_loopg [7, 19] d.parts.length (fun gg z i wr => ∃ (Y : Cl w0) (j : Nat) (s' : Int), wr = Y.w ∧ i = .int .i64 j ∧ j + gg = d.parts.length ∧ Keep c V.w Y.w ∧ Num Y.w c s' ∧ (0 ≤ s' ∧ s' ≤ 1000) ∧ Hid (runV ok inc (s + inc) (preAll (d.parts.take j) (k + 1)) = some s'))
      case atStart => exact ⟨V, 0, s + inc, rfl, rfl, Nat.zero_add _, Keep.refl _ _, hs2, hin s d k hok hz0 hz1, rfl⟩
      case round =>
       obtain ⟨Y, j, s', rfl, rfl, hjg, hKY, hsY, hz2, HA⟩ := hrel
       by_cases hlt : j < d.parts.length
       ·have hltI : (j : Int) < d.parts.length := by omega
        obtain ⟨x, hx⟩ : ∃ x, d.parts[j]? = some x := ⟨d.parts[j], List.getElem?_eq_getElem hlt⟩
        obtain ⟨b, off, nv', pv', rfl, h8, hr'⟩ := hcell j x hx
        obtain ⟨na', nc', pa', pc', rfl, rfl⟩ := hr'.slices
        obtain ⟨c0, c1, c2, c3, c4, c5, c6, c7⟩ := h8.up Y.below
        have HN : Hid (runV ok inc (s + inc) (preAll (d.parts.take (j + 1)) (k + 1)) = runV ok inc s' (pre x (k + 1))) := by
         show _ = _
         rw [preAll_take d.parts (k + 1) j x hx, runV_append, HA.out]
         rfl
        have HX : Hid (runV ok inc s' (pre x (k + 1)) = none → runV ok inc (s + inc) (preAll d.parts (k + 1)) = none) := by
         intro hnone
         have e : d.parts = d.parts.take (j + 1) ++ d.parts.drop (j + 1) := (List.take_append_drop _ _).symm
         show runV ok inc (s + inc) (preAll d.parts (k + 1)) = none
         rw [e]
         unfold preAll at HN ⊢
         rw [List.flatMap_append, runV_append, HN.out, hnone]
         rfl
        clear hx h8 hlook
        obtain ⟨Y2, hY2⟩ : ∃ Y2, Y2 = Y.w.alloc (.cells #[.int .i64 x.kind, .string x.ty, .int .u64 x.bits, .int .u64 x.imag, .string x.text, .slice na' x.names.length nc', .slice pa' x.parts.length pc', .int .i64 x.hook] 29) := ⟨_, rfl⟩
        have hbY : Below Y.w.heap.size Y.w Y2 := by rw [hY2]; exact (Below.refl _ _).alloc (Nat.le_refl _) _
        obtain ⟨C2, hC2⟩ : ∃ C2 : Cl w0, C2.w = Y2 := ⟨⟨Y2, Y.below.trans (hbY.mono Y.below.size)⟩, rfl⟩
        have hrec := ih C2 s' x _ _ (k + 1) (by rw [hC2]; exact hsY.up hbY) hz2.1 hz2.2 hr' (by omega) (by omega)
        rw [hC2] at hrec
        clear ih hr' hcell
        go_wp2_with fail
        rw [← hY2]
        refine hrec.mono ?_
        rintro e w1 ⟨Z, rfl, hKZ, (⟨s2, hrun, rfl, hsZ, hz3⟩ | ⟨hrun, rfl⟩)⟩
        ·go_wp2
         go_roundg (gk - 1)
         case measure => omega
         case rel => exact ⟨Z, j + 1, s2, rfl, by go_num, by omega, hKY.trans ((Keep.of hbY).trans hKZ), hsZ, hz3, by show _ = _; rw [HN.out, hrun]⟩
        ·refine ⟨rfl, Z, rfl, hkp1.trans (hK.trans (hKY.trans ((Keep.of hbY).trans hKZ))), .inr ⟨?_, rfl⟩⟩
         rw [HP.out, HX.out hrun]
       ·have hltI : ¬ (j : Int) < d.parts.length := by omega
        have HF : Hid (runV ok inc (s + inc) (preAll d.parts (k + 1)) = some s') := by
         have := HA.out
         rw [List.take_of_length_le (by omega)] at this
         exact this
        go_wp2
        go_end0
        exact ⟨Y, rfl, hkp1.trans (hK.trans hKY), .inl ⟨s', by rw [HP.out, HF.out], rfl, hsY, hz2⟩⟩
   ·have HR : Hid (runV ok inc s (pre d k) = none) := by show _ = _; rw [hpre]; simp [runV, hno]
    exact ⟨rfl, V, rfl, hkp1.trans hK, .inr ⟨HR.out, rfl⟩⟩
def ok1 (s : Int) (d : D) (k : Int) : Bool := decide (s + 1 ≤ 64) && fitsB d
def ok2 (s : Int) (d : D) (k : Int) : Bool := decide (k < 8)
def ok3 (s : Int) (d : D) (k : Int) : Bool := decide (0 ≤ d.kind) && decide (d.kind ≤ 22)
def ok4 (s : Int) (d : D) (k : Int) : Bool := frmB d
set_option maxRecDepth 1000000 in
set_option maxHeartbeats 4000000 in
theorem look1 (w0 : World) (c : Nat) (hc : w0.heap.size ≤ c) : Look w0 c 88 #[.pointer (some ⟨c, 0, none⟩)] ok1 1 2 := by
 intro W s d na pa nc pc k n hs h0 h1 hr
 have hcW : c < W.w.heap.size := lt_of_cell hs.1
 obtain ⟨f1, f2⟩ := hs
 have hs' : Num W.w c s := ⟨f1, f2⟩
 obtain ⟨W1, hW1⟩ : ∃ W1, W1 = (W.w.setCell ⟨c, 0, none⟩ (.int .i64 (s + 1))).alloc (.cells #[.int .i64 d.kind, .string d.ty, .int .u64 d.bits, .int .u64 d.imag, .string d.text, .slice na d.names.length nc, .slice pa d.parts.length pc, .int .i64 d.hook] 29) := ⟨_, rfl⟩
 have hb1 : Below (W.w.setCell ⟨c, 0, none⟩ (.int .i64 (s + 1))).heap.size (W.w.setCell ⟨c, 0, none⟩ (.int .i64 (s + 1))) W1 := by rw [hW1]; exact (Below.refl _ _).alloc (Nat.le_refl _) _
 have hsz : (W.w.setCell ⟨c, 0, none⟩ (.int .i64 (s + 1))).heap.size = W.w.heap.size := by simp
 have hn1 : Num W1 c (s + 1) := (hs'.put (s + 1)).up hb1
 have hk1 : Keep c W.w W1 := by
  refine ⟨by have := hb1.size; omega, fun p hp hpc => ?_⟩
  rw [hb1.cell (by rw [hsz]; exact hp)]
  exact World.cell?_of_block (w := W.w) (Below.heap_setCell _ _ _ _ hpc)
 have hcl : Below w0.heap.size w0 W1 := by
  have h3 : Below w0.heap.size w0 (W.w.setCell ⟨c, 0, none⟩ (.int .i64 (s + 1))) := W.below.setCell hc _
  exact h3.trans (hb1.mono h3.size)
 have fin : ∀ V : World, Below W1.heap.size W1 V → (∃ W' : Cl w0, V = W'.w ∧ Keep c W.w W'.w) ∧ Num V c (s + 1) := fun V hV =>
  ⟨⟨⟨V, hcl.trans (hV.mono hcl.size)⟩, rfl, hk1.trans (Keep.of hV)⟩, hn1.up hV⟩
 have hft := fun W => textfits_any d (.slice na d.names.length nc) (.slice pa d.parts.length pc) W
 have HD : Hid (ok1 s d k = (decide (s + 1 ≤ 64) && fitsB d)) := rfl
 generalize ok1 s d k = R at HD ⊢
 generalize fitsB d = f at hft HD
 by_cases h64 : s + 1 ≤ 64
 ·cases f with
  | true =>
    have HR : Hid (R = true) := by show R = true; rw [HD.out]; simp [h64]
    go_enter Tryz.func88, Tryz.ntmps88
    go_wp2_with (first | (go_at_call 90; rw [← hW1]; refine (hft _).mono ?_; rintro e w1 ⟨rfl, hb⟩) | (go_at_call 89; refine (must_ok _ _).mono ?_; rintro e w1 ⟨rfl, rfl⟩))
    go_end0
    obtain ⟨⟨W', e1, e2⟩, e3⟩ := fin _ hb
    exact ⟨W', e1, e2, .inl ⟨HR.out, rfl, by rw [← e1]; exact e3⟩⟩
  | false =>
    have HR : Hid (R = false) := by show R = false; rw [HD.out]; simp
    go_enter Tryz.func88, Tryz.ntmps88
    go_wp2_with (first | (go_at_call 90; rw [← hW1]; refine (hft _).mono ?_; rintro e w1 ⟨rfl, hb⟩) | (go_at_call 89; refine (must_no _ _).mono ?_; rintro e w1 ⟨rfl, rfl⟩))
    obtain ⟨⟨W', e1, e2⟩, e3⟩ := fin _ hb
    exact ⟨rfl, W', e1, e2, .inr ⟨HR.out, rfl⟩⟩
 ·have HR : Hid (R = false) := by show R = false; rw [HD.out]; simp [h64]
  go_enter Tryz.func88, Tryz.ntmps88
  go_wp2_with (first | (go_at_call 89; refine (must_no _ _).mono ?_; rintro e w1 ⟨rfl, hw1⟩))
  obtain ⟨⟨W', e1, e2⟩, e3⟩ := fin _ (Below.refl _ _)
  exact ⟨rfl, W', by rw [← hW1]; exact e1, e2, .inr ⟨HR.out, rfl⟩⟩
theorem look_of {w0 : World} {c : Nat} {W : Cl w0} {s : Int} (hs : Num W.w c s) {V : World} (hV : Below W.w.heap.size W.w V) : (∃ W' : Cl w0, V = W'.w ∧ Keep c W.w W'.w) ∧ Num V c s :=
 ⟨⟨⟨V, W.below.trans (hV.mono W.below.size)⟩, rfl, Keep.of hV⟩, hs.up hV⟩
set_option maxRecDepth 1000000 in
set_option maxHeartbeats 4000000 in
theorem look2 (w0 : World) (c : Nat) : Look w0 c 91 #[] ok2 0 6 := by
 intro W s d na pa nc pc k n hs h0 h1 hr
 have HD : Hid (ok2 s d k = decide (k < 8)) := rfl
 generalize ok2 s d k = R at HD ⊢
 by_cases hk : k < 8
 ·have HR : Hid (R = true) := by show R = true; rw [HD.out]; simp [hk]
  go_enter Tryz.func91, Tryz.ntmps91
  go_wp2_with (first | (go_at_call 89; refine (must_ok _ _).mono ?_; rintro e w1 ⟨rfl, rfl⟩))
  go_end0
  obtain ⟨⟨W', e1, e2⟩, e3⟩ := look_of hs ((Below.refl _ _).alloc (Nat.le_refl _) _)
  exact ⟨W', e1, e2, .inl ⟨HR.out, rfl, by rw [← e1, Int.add_zero]; exact e3⟩⟩
 ·have HR : Hid (R = false) := by show R = false; rw [HD.out]; simp [hk]
  go_enter Tryz.func91, Tryz.ntmps91
  go_wp2_with (first | (go_at_call 89; refine (must_no _ _).mono ?_; rintro e w1 ⟨rfl, rfl⟩))
  obtain ⟨⟨W', e1, e2⟩, e3⟩ := look_of hs ((Below.refl _ _).alloc (Nat.le_refl _) _)
  exact ⟨rfl, W', e1, e2, .inr ⟨HR.out, rfl⟩⟩
set_option maxRecDepth 1000000 in
set_option maxHeartbeats 4000000 in
theorem look3 (w0 : World) (c : Nat) : Look w0 c 92 #[] ok3 0 3 := by
 intro W s d na pa nc pc k n hs h0 h1 hr
 have HD : Hid (ok3 s d k = (decide (0 ≤ d.kind) && decide (d.kind ≤ 22))) := rfl
 have hik := fun W => iskind_any d.kind W
 generalize (decide (0 ≤ d.kind) && decide (d.kind ≤ 22)) = q at HD hik
 generalize ok3 s d k = R at HD ⊢
 cases q with
 | true =>
   go_enter Tryz.func92, Tryz.ntmps92
   go_wp2_with (first | (go_at_call 93; refine (hik _).mono ?_; rintro e w1 ⟨rfl, rfl⟩) | (go_at_call 89; refine (must_ok _ _).mono ?_; rintro e w1 ⟨rfl, rfl⟩))
   go_end0
   obtain ⟨⟨W', e1, e2⟩, e3⟩ := look_of hs ((Below.refl _ _).alloc (Nat.le_refl _) _)
   exact ⟨W', e1, e2, .inl ⟨HD.out, rfl, by rw [← e1, Int.add_zero]; exact e3⟩⟩
 | false =>
   go_enter Tryz.func92, Tryz.ntmps92
   go_wp2_with (first | (go_at_call 93; refine (hik _).mono ?_; rintro e w1 ⟨rfl, rfl⟩) | (go_at_call 89; refine (must_no _ _).mono ?_; rintro e w1 ⟨rfl, rfl⟩))
   obtain ⟨⟨W', e1, e2⟩, e3⟩ := look_of hs ((Below.refl _ _).alloc (Nat.le_refl _) _)
   exact ⟨rfl, W', e1, e2, .inr ⟨HD.out, rfl⟩⟩
set_option maxRecDepth 1000000 in
set_option maxHeartbeats 4000000 in
theorem look4 (w0 : World) (c : Nat) : Look w0 c 94 #[] ok4 0 4 := by
 intro W s d na pa nc pc k n hs h0 h1 hr
 obtain ⟨m, rfl⟩ : ∃ m, n = m + 1 := by
  cases n with
  | zero => exact hr.elim
  | succ m => exact ⟨m, rfl⟩
 have HD : Hid (ok4 s d k = frmB d) := rfl
 obtain ⟨W1, hW1⟩ : ∃ W1, W1 = W.w.alloc (.cells #[.int .i64 d.kind, .string d.ty, .int .u64 d.bits, .int .u64 d.imag, .string d.text, .slice na d.names.length nc, .slice pa d.parts.length pc, .int .i64 d.hook] 29) := ⟨_, rfl⟩
 have hb1 : Below W.w.heap.size W.w W1 := by rw [hW1]; exact (Below.refl _ _).alloc (Nat.le_refl _) _
 have hfo := formed_any m d _ _ W1 (hr.up (W.below.trans (hb1.mono W.below.size)))
 clear hr
 generalize frmB d = q at HD hfo
 generalize ok4 s d k = R at HD ⊢
 cases q with
 | true =>
   go_enter Tryz.func94, Tryz.ntmps94
   go_wp2_with (first | (go_at_call 95; rw [← hW1]; refine hfo.mono ?_; rintro e w1 ⟨rfl, hb⟩) | (go_at_call 89; refine (must_ok _ _).mono ?_; rintro e w1 ⟨rfl, rfl⟩))
   go_end0
   obtain ⟨⟨W', e1, e2⟩, e3⟩ := look_of hs (hb1.trans (hb.mono hb1.size))
   exact ⟨W', e1, e2, .inl ⟨HD.out, rfl, by rw [← e1, Int.add_zero]; exact e3⟩⟩
 | false =>
   go_enter Tryz.func94, Tryz.ntmps94
   go_wp2_with (first | (go_at_call 95; rw [← hW1]; refine hfo.mono ?_; rintro e w1 ⟨rfl, hb⟩) | (go_at_call 89; refine (must_no _ _).mono ?_; rintro e w1 ⟨rfl, rfl⟩))
   obtain ⟨⟨W', e1, e2⟩, e3⟩ := look_of hs (hb1.trans (hb.mono hb1.size))
   exact ⟨rfl, W', e1, e2, .inr ⟨HD.out, rfl⟩⟩
end Go.Proofs.YtdlnmnipnkeabaaGreatDoor
namespace Go.Proofs.YtdlnmnipnkeabaaGreatDoor
open Go.RowKit
set_option linter.unusedVariables false
def chk0 (d : D) : Int :=
 if runV ok1 1 0 (pre d 0) = none then 2 else if runV ok2 0 0 (pre d 0) = none then 6 else if runV ok3 0 0 (pre d 0) = none then 3 else if runV ok4 0 0 (pre d 0) = none then 4 else 0
theorem runV_start {ok : Int → D → Int → Bool} (h : ∀ s s' d k, ok s d k = ok s' d k) : ∀ (l : List (D × Int)) (s s' : Int), runV ok 0 s l = none ↔ runV ok 0 s' l = none
 | [], s, s' => by simp [runV]
 | (d, k) :: l, s, s' => by
   simp only [runV, h s s' d k]
   split
   ·exact runV_start h l (s + 0) (s' + 0)
   ·simp
theorem frozen_none (W : World) (a : Addr) (h : W.heap.size ≤ a.block) : W.frozen? a = false := by
 unfold World.frozen?
 rw [Array.getElem?_eq_none h]
set_option maxRecDepth 1000000 in
set_option maxHeartbeats 4000000 in
theorem check_any (n : Nat) (d : D) (nv pv : Value) (w : World) (hr : RdC n w nv pv d) (hn : n ≤ 1000) :
  Calls Tryz.prog 74 #[DV d nv pv] w fun e w' => Below w.heap.size w w' ∧ ((chk0 d = 0 ∧ e = .returned (.tuple #[])) ∨ (chk0 d ≠ 0 ∧ e = .panicked (PE (chk0 d)))) := by
 obtain ⟨na, nc, pa, pc, rfl, rfl⟩ := hr.slices
 obtain ⟨W1, hW1⟩ : ∃ W1, W1 = (w.alloc (.cells #[.int .i64 d.kind, .string d.ty, .int .u64 d.bits, .int .u64 d.imag, .string d.text, .slice na d.names.length nc, .slice pa d.parts.length pc, .int .i64 d.hook] 29)).alloc (.cells #[.int .i64 0] 3) := ⟨_, rfl⟩
 have hb0 : Below w.heap.size w W1 := by rw [hW1]; exact ((Below.refl _ _).alloc (Nat.le_refl _) _).alloc (by simp) _
 obtain ⟨C1, hC1⟩ : ∃ C1 : Cl w, C1.w = W1 := ⟨⟨W1, hb0⟩, rfl⟩
 have hn1 : Num C1.w (w.heap.size + 1) 0 := by
  rw [hC1, hW1]
  refine ⟨by simp, ?_⟩
  rw [frozen?_alloc_cells]
  exact frozen_none _ _ (by simp)
 have box : ∀ x : Cl w, Keep (w.heap.size + 1) C1.w x.w → At8 x.w w.heap.size 0 d (.slice na d.names.length nc) (.slice pa d.parts.length pc) := by
  intro x hx
  rw [hC1] at hx
  refine ⟨?_, ?_, ?_, ?_, ?_, ?_, ?_, ?_⟩
  all_goals exact hx.cell (by rw [hW1]; simp) (by show w.heap.size ≠ _; omega)
 have hc : w.heap.size ≤ w.heap.size + 1 := by omega
 have k1 := walk_any w (w.heap.size + 1) 88 #[.pointer (some ⟨w.heap.size + 1, 0, none⟩)] ok1 1 2 hc (look1 w _ hc) (fun s d k h h0 h1 => by simp [ok1] at h; omega) (enters_of Tryz.func88 (by kernel_rfl) rfl) n C1 0 d _ _ 0 hn1 (by omega) (by omega) hr (by omega) (by omega)
 have k2 := fun (W : Cl w) (s : Int) (h : Num W.w (w.heap.size + 1) s) (h0 : 0 ≤ s) (h1 : s ≤ 1000) => walk_any w (w.heap.size + 1) 91 #[] ok2 0 6 hc (look2 w _) (fun s d k h h0 h1 => by omega) (enters_of Tryz.func91 (by kernel_rfl) rfl) n W s d _ _ 0 h h0 h1 hr (by omega) (by omega)
 have k3 := fun (W : Cl w) (s : Int) (h : Num W.w (w.heap.size + 1) s) (h0 : 0 ≤ s) (h1 : s ≤ 1000) => walk_any w (w.heap.size + 1) 92 #[] ok3 0 3 hc (look3 w _) (fun s d k h h0 h1 => by omega) (enters_of Tryz.func92 (by kernel_rfl) rfl) n W s d _ _ 0 h h0 h1 hr (by omega) (by omega)
 have k4 := fun (W : Cl w) (s : Int) (h : Num W.w (w.heap.size + 1) s) (h0 : 0 ≤ s) (h1 : s ≤ 1000) => walk_any w (w.heap.size + 1) 94 #[] ok4 0 4 hc (look4 w _) (fun s d k h h0 h1 => by omega) (enters_of Tryz.func94 (by kernel_rfl) rfl) n W s d _ _ 0 h h0 h1 hr (by omega) (by omega)
 have HD : Hid (chk0 d = if runV ok1 1 0 (pre d 0) = none then 2 else if runV ok2 0 0 (pre d 0) = none then 6 else if runV ok3 0 0 (pre d 0) = none then 3 else if runV ok4 0 0 (pre d 0) = none then 4 else 0) := rfl
 have s2 : ∀ s, runV ok2 0 s (pre d 0) = none ↔ runV ok2 0 0 (pre d 0) = none := fun s => runV_start (fun _ _ _ _ => rfl) _ _ _
 have s3 : ∀ s, runV ok3 0 s (pre d 0) = none ↔ runV ok3 0 0 (pre d 0) = none := fun s => runV_start (fun _ _ _ _ => rfl) _ _ _
 have s4 : ∀ s, runV ok4 0 s (pre d 0) = none ↔ runV ok4 0 0 (pre d 0) = none := fun s => runV_start (fun _ _ _ _ => rfl) _ _ _
 rw [hC1] at k1
 go_enter Tryz.func74, Tryz.ntmps74
 go_wp2_with fail
 rw [← hW1]
 refine k1.mono ?_
 rintro e w1 ⟨V1, rfl, hK1, (⟨c1, r1, rfl, hn1, hz1, hz1'⟩ | ⟨r1, rfl⟩)⟩
 ·obtain ⟨a0, a1, a2, a3, a4, a5, a6, a7⟩ := box V1 (by rw [hC1]; exact hK1)
  go_wp2_with fail
  refine (k2 V1 c1 hn1 hz1 hz1').mono ?_
  rintro e w1 ⟨V2, rfl, hK2, (⟨c2, r2, rfl, hn2, hz2, hz2'⟩ | ⟨r2, rfl⟩)⟩
  ·obtain ⟨b0, b1, b2, b3, b4, b5, b6, b7⟩ := box V2 (by rw [hC1]; exact hK1.trans hK2)
   go_wp2_with fail
   refine (k3 V2 c2 hn2 hz2 hz2').mono ?_
   rintro e w1 ⟨V3, rfl, hK3, (⟨c3, r3, rfl, hn3, hz3, hz3'⟩ | ⟨r3, rfl⟩)⟩
   ·obtain ⟨d0, d1, d2, d3, d4, d5, d6, d7⟩ := box V3 (by rw [hC1]; exact hK1.trans (hK2.trans hK3))
    go_wp2_with fail
    refine (k4 V3 c3 hn3 hz3 hz3').mono ?_
    rintro e w1 ⟨V4, rfl, hK4, (⟨c4, r4, rfl, hn4, hz4, hz4'⟩ | ⟨r4, rfl⟩)⟩
    ·go_wp2
     go_end0
     refine ⟨V4.below, .inl ⟨?_, rfl⟩⟩
     rw [HD.out, if_neg (by rw [r1]; simp), if_neg (by rw [← s2 c1, r2]; simp), if_neg (by rw [← s3 c2, r3]; simp), if_neg (by rw [← s4 c3, r4]; simp)]
    ·have e4 : chk0 d = 4 := by rw [HD.out, if_neg (by rw [r1]; simp), if_neg (by rw [← s2 c1, r2]; simp), if_neg (by rw [← s3 c2, r3]; simp), if_pos ((s4 c3).1 r4)]
     exact ⟨rfl, V4.below, .inr ⟨by rw [e4]; decide, by rw [e4]⟩⟩
   ·have e3 : chk0 d = 3 := by rw [HD.out, if_neg (by rw [r1]; simp), if_neg (by rw [← s2 c1, r2]; simp), if_pos ((s3 c2).1 r3)]
    exact ⟨rfl, V3.below, .inr ⟨by rw [e3]; decide, by rw [e3]⟩⟩
  ·have e2 : chk0 d = 6 := by rw [HD.out, if_neg (by rw [r1]; simp), if_pos ((s2 c1).1 r2)]
   exact ⟨rfl, V2.below, .inr ⟨by rw [e2]; decide, by rw [e2]⟩⟩
 ·have e1 : chk0 d = 2 := by rw [HD.out, if_pos r1]
  exact ⟨rfl, V1.below, .inr ⟨by rw [e1]; decide, by rw [e1]⟩⟩
end Go.Proofs.YtdlnmnipnkeabaaGreatDoor
