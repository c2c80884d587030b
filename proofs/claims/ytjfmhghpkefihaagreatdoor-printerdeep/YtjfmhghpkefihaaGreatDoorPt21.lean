/- XName, DHk: these texts in one. -/
import Derived.Test.YtjfmhghpkefihaaGreatDoorPt3
import Derived.Test.YtjfmhghpkefihaaGreatDoorPt19
import Derived.Test.YtjfmhghpkefihaaGreatDoorPt11
namespace Go.Proofs.YtjfmhghpkefihaaGreatDoor
open Go.RowKit
set_option linter.unusedVariables false
set_option linter.unusedSimpArgs false
def mT (n : Int) : ByteArray := if n = 1 then ⟨#[70, 111, 114, 109, 97, 116]⟩ else if n = 2 then ⟨#[71, 111, 83, 116, 114, 105, 110, 103]⟩ else if n = 3 then ⟨#[69, 114, 114, 111, 114]⟩ else if n = 4 then ⟨#[83, 116, 114, 105, 110, 103]⟩ else ⟨#[]⟩
set_option maxRecDepth 1000000 in
theorem method_any (n : Int) (w : World) : Calls Tryz.prog 101 #[.int .i64 n] w fun e w' => e = .returned (.string (mT n)) ∧ w' = w := by
 by_cases e1 : n = 1
 ·subst e1
  go_enter Tryz.func101, Tryz.ntmps101
  go_wp2
  go_ret
  exact ⟨rfl, rfl⟩
 ·skip
  by_cases e2 : n = 2
  ·subst e2
   go_enter Tryz.func101, Tryz.ntmps101
   go_wp2
   go_ret
   exact ⟨rfl, rfl⟩
  ·skip
   by_cases e3 : n = 3
   ·subst e3
    go_enter Tryz.func101, Tryz.ntmps101
    go_wp2
    go_ret
    exact ⟨rfl, rfl⟩
   ·skip
    by_cases e4 : n = 4
    ·subst e4
     go_enter Tryz.func101, Tryz.ntmps101
     go_wp2
     go_ret
     exact ⟨rfl, rfl⟩
    ·skip
     rw [show mT n = ⟨#[]⟩ by unfold mT; rw [if_neg e1, if_neg e2, if_neg e3, if_neg e4]]
     go_enter Tryz.func101, Tryz.ntmps101
     go_wp2
     go_ret
     exact ⟨rfl, rfl⟩
end Go.Proofs.YtjfmhghpkefihaaGreatDoor
namespace Go.Proofs.YtjfmhghpkefihaaGreatDoor
open Go.RowKit
set_option linter.unusedVariables false
set_option linter.unusedSimpArgs false
abbrev FP (g : Nat) : Value := .func (.func 59) #[.pointer (some ⟨g, 0, none⟩)] #[]
abbrev FS (g : Nat) : Value := .func (.func 60) #[.pointer (some ⟨g, 0, none⟩)] #[]
theorem ieql_n (w : World) : (binOp BinOp.eql 20 .nilIface .nilIface).run Tryz.prog w = .ok (.bool true) w := by kernel_rfl
theorem doV_3 {x : Ac} (h : x.k = 3) (g : Value) : doV x g = .func (.func 193) #[.agg (x.v ++ [g]).toArray] #[] := by unfold doV; rw [if_neg (by omega), if_neg (by omega), if_pos h]
theorem text_off (s : ByteArray) : padS (cutS s (min (-1) 1000)) false false (-1) = s := by
 have ec : cutS s (min (-1) 1000) = s := by unfold cutS; rw [if_pos (by decide)]
 rw [ec]
 have ew : wdt (((wdt (-1) : Nat) : Int) - (cntR s : Nat)) = 0 := by
  have : wdt (-1) = 0 := rfl
  rw [this]; unfold wdt; omega
 unfold padS
 rw [ew, run_zero]
 show (⟨#[]⟩ : ByteArray) ++ s = s
 apply ByteArray.ext; apply Array.ext'
 rw [app_list]; rfl
structure Tn (A B : World → Prop) (P : Nat → Prop) (R : Nat) : Prop where
 a : ∀ W W', A W → Below W.heap.size W W' → A W'
 b : ∀ W W', B W → Kx (fun k => R ≤ k) W W' → B W'
 p : ∀ k, P k → k < R
theorem Tn.up {A B : World → Prop} {P : Nat → Prop} {R : Nat} (h : Tn A B P R) {W W' : World} (hb : B W) (b : Below W.heap.size W W') : B W' := h.b W W' hb (.of_below b)
set_option maxRecDepth 1000000 in
set_option maxHeartbeats 4000000 in
theorem caught_q {A B : World → Prop} {P : Nat → Prop} {R : Nat} (hT : Tn A B P R) {S : Value} {T : ByteArray} (h : ∀ W, A W → Calls Tryz.prog 193 #[S] W fun e W' => e = .returned (.string T) ∧ B W' ∧ Kx P W W') (w : World) (hR : R ≤ w.heap.size) (hq : A w) :
  Calls Tryz.prog 149 #[.func (.func 193) #[S] #[]] w fun e w' => e = .returned (.tuple #[.string T, .nilIface]) ∧ B w' ∧ Kx P w w' := by
 obtain ⟨W1, hW1⟩ : ∃ W1, W1 = w.alloc (.cells #[.nilIface] 20) := ⟨_, rfl⟩
 have hb : Blk W1 w.heap.size [.nilIface] := by rw [hW1]; exact Blk.new _ _ _
 have hw1 : Below w.heap.size w W1 := by rw [hW1]; exact (Below.refl _ _).alloc (Nat.le_refl _) _
 have hne : ¬ P w.heap.size := fun h => by have := hT.p _ h; omega
 have hmf : ∀ (fn : Fn) (first cap : Array Value) (w : World), (Instr.makeFunc fn first cap).run Tryz.prog w = .ok (.func fn first cap) w := fun _ _ _ _ => rfl
 have hc := h W1 (hT.a _ _ hq hw1)
 go_enter_defers Tryz.func149, Tryz.ntmps149
 go_upto_region 1 with fail
 rw [← hW1]
 clear hW1
 go_wp2_with fail
 refine hc.mono ?_
 rintro e W2 ⟨rfl, q2, g2⟩
 have b2 := hb.kx g2 hne
 have c2 := b2.c 0 _ rfl
 have z2 := b2.z 0
 go_wp2
 refine leaves_cons (f := 194) (args := #[.pointer (some ⟨w.heap.size, 0, none⟩)]) (by simp) (by simp [go_sem]) ?_
 have b3 := b2.set 0 (by simp) .nilIface
 refine (xcatch_idle _ _ _ (b3.c 0 _ rfl) (b3.z 0)).mono ?_
 rintro e u' w'' ⟨rfl, rfl, rfl⟩
 have b4 := b3.set 0 (by simp) .nilIface
 have r0 := b4.c 0 _ rfl
 refine ⟨.tuple #[.string T, .nilIface], ?_, rfl, hT.b _ _ q2 (((Kx.refl _ _).setCell _ _ (Or.inl hR) _).setCell _ _ (Or.inl hR) _), (((Kx.of_below hw1).trans g2).setCell _ _ (Or.inr (Nat.le_refl _)) _).setCell _ _ (Or.inr (Nat.le_refl _)) _⟩
 simp [results, Tryz.results149, go_sem, r0]
set_option maxRecDepth 1000000 in
set_option maxHeartbeats 4000000 in
theorem do_q {A B : World → Prop} {P : Nat → Prop} {R : Nat} (hT : Tn A B P R) (g : Nat) (x : Ac) {v : Int} {m T : ByteArray} {np : Bool} (hk : x.k = 3) (h : ∀ W, A W → Calls Tryz.prog 193 #[.agg (x.v ++ [FP g]).toArray] W fun e W' => e = .returned (.string T) ∧ B W' ∧ Kx P W W') (w : World) (hR : R ≤ w.heap.size) (hq : A w) :
  Calls Tryz.prog 99 #[.agg x.v.toArray, .bool np, .int .i32 v, .string m, FP g, FS g] w fun e w' => e = .returned (.tuple #[.string T, .bool true]) ∧ B w' ∧ Kx P w w' := by
 obtain ⟨M, hM⟩ : ∃ M, M = x.v ++ [FP g] := ⟨_, rfl⟩
 have hD : ∀ w, Calls Tryz.prog 148 #[.agg M.toArray] w fun e w' => e = .returned (doV x (FP g)) ∧ Below w.heap.size w w' := by rw [hM]; exact fun w => does_any x (FP g) w
 have hB : ∀ w, (Instr.build 246 #[(0, .agg x.v.toArray), (1, FP g)]).run Tryz.prog w = .ok (.agg M.toArray) w := by rw [hM]; exact fun w => bld_script1 x (FP g) ⟨_, _, _, rfl⟩ w
 rw [doV_3 hk, ← hM] at hD
 have hC : ∀ W, R ≤ W.heap.size → A W → Calls Tryz.prog 149 #[.func (.func 193) #[.agg M.toArray] #[]] W fun e w' => e = .returned (.tuple #[.string T, .nilIface]) ∧ B w' ∧ Kx P W w' := fun W hr hW => by rw [hM]; exact caught_q hT h W hr hW
 have hf := fun w => feql_fstr (.func 193) #[.agg M.toArray] #[] w
 have hi := fun w => ieql_n w
 clear hk h
 obtain ⟨W1, hW1⟩ : ∃ W1, W1 = w.alloc (.cells x.v.toArray 31) := ⟨_, rfl⟩
 have hb : Blk W1 w.heap.size x.v := by rw [hW1]; exact Blk.new _ _ _
 have w1 : Below w.heap.size w W1 := by rw [hW1]; exact (Below.refl _ _).alloc (Nat.le_refl _) _
 have hl := x.len
 generalize hL : x.v = L at *
 clear hM hL
 go_enter Tryz.func99, Tryz.ntmps99
 go_upto_region 1 with fail
 rw [← hW1]
 clear hW1
 go_upto_region 2 with (first
  | (refine wpl_ld row_Act rfl (.tmp 6) rfl (vs := L) rfl hb.range hl ?_)
  | (refine wpl_bld rfl _ _ rfl [(0, .agg L.toArray), (1, FP g)] rfl (hB _) ?_)
  | (go_at_call 148; refine (hD _).mono ?_; rintro e w2 ⟨rfl, b2⟩))
 have q2 := hT.a _ _ (hT.a _ _ hq w1) b2
 have bw2 : Below w.heap.size w w2 := w1.trans (b2.mono w1.size)
 have hR2 : R ≤ w2.heap.size := Nat.le_trans hR bw2.size
 go_wp2_with (go_at_call 149; refine (hC _ hR2 q2).mono ?_; rintro e w3 ⟨rfl, q3, g3⟩)
 go_ret2
 exact ⟨rfl, q3, (Kx.of_below bw2).trans g3⟩
set_option maxRecDepth 1000000 in
set_option maxHeartbeats 4000000 in
theorem prints_q {A B : World → Prop} {P : Nat → Prop} {R : Nat} (hT : Tn A B P R) (g : Nat) (x : Ac) {T : ByteArray} (QL : Sl → World → Prop)
  (hcp : ∀ W, A W → Calls Tryz.prog 240 #[.slice x.l.a x.l.n x.l.c] W fun e W' => (∃ l' : Sl, e = .returned (.slice l'.a l'.n l'.c) ∧ QL l' W') ∧ Below W.heap.size W W')
  (hpr : ∀ W l', A W → QL l' W → Calls Tryz.prog 59 #[.pointer (some ⟨g, 0, none⟩), .string x.f, .slice l'.a l'.n l'.c] W fun e W' => e = .returned (.string T) ∧ B W' ∧ Kx P W W')
  (W : World) (hR : R ≤ W.heap.size) (hq : A W) : Calls Tryz.prog 193 #[.agg (x.v ++ [FP g]).toArray] W fun e W' => e = .returned (.string T) ∧ B W' ∧ Kx P W W' := by
 obtain ⟨W1, hW1⟩ : ∃ W1, W1 = W.alloc (.cells (x.v ++ [FP g]).toArray 246) := ⟨_, rfl⟩
 have hb : Blk W1 W.heap.size (x.v ++ [FP g]) := by rw [hW1]; exact Blk.new _ _ _
 have w1 : Below W.heap.size W W1 := by rw [hW1]; exact (Below.refl _ _).alloc (Nat.le_refl _) _
 have q1 := hT.a _ _ hq w1
 have hne : ¬ P W.heap.size := fun h => by have := hT.p _ h; omega
 have f0 : ∀ V, Kx P W1 V → (fun w' : World => w'.cell? ⟨W.heap.size, 12, none⟩ = some (FP g) ∧ w'.cell? ⟨W.heap.size, 2, none⟩ = some (.string x.f) ∧ w'.cell? ⟨W.heap.size, 3, none⟩ = some (.slice x.l.a x.l.n x.l.c)) V := fun V gV => by
  have b := hb.kx gV hne
  exact ⟨b.c 12 _ rfl, b.c 2 _ rfl, b.c 3 _ rfl⟩
 have c12 : W1.cell? ⟨W.heap.size, 12, none⟩ = some (FP g) := (f0 W1 (Kx.refl _ _)).1
 have hfn := fun w => feql_fprint (.func 59) #[.pointer (some ⟨g, 0, none⟩)] #[] w
 have bD : Below W1.heap.size W1 W1.drew := (Below.refl W1.heap.size W1).drew
 have gD : Kx P W1 W1.drew := .of_below bD
 have qD : A W1.drew := hT.a _ _ q1 bD
 have hc := hcp W1.drew qD
 clear hb hq hcp
 generalize hLX : x.v ++ [FP g] = L at *
 clear hLX
 generalize x.f = f at *
 generalize x.l.a = la at *
 generalize x.l.n = ln at *
 generalize x.l.c = lc at *
 go_enter Tryz.func193, Tryz.ntmps193
 go_upto_region 1 with fail
 rw [← hW1]
 clear hW1
 go_upto_region 3 with fail
 refine wp_region_held_drew (S := fun w' => w'.cell? ⟨W.heap.size, 12, none⟩ = some (FP g) ∧ w'.cell? ⟨W.heap.size, 2, none⟩ = some (.string f) ∧ w'.cell? ⟨W.heap.size, 3, none⟩ = some (.slice la ln lc)) (by kernel_rfl) (f0 _ gD) ?_
 intro hS
 refine tk 0 (.pointer (some ⟨W.heap.size, 12, none⟩)) rfl (by kernel_rfl) (fun _ _ _ h => h) (by rfl) (by assumption) ?_ ?_
 ·intro w5 hSw
  obtain ⟨s0, s1, s2⟩ := hSw
  go_simp
 try simp only [Act.put, List.getElem_toArray, List.getElem_cons_zero, List.getElem_cons_succ, List.setIfInBounds_toArray, List.set_cons_zero, List.set_cons_succ, List.length_cons]
 refine tk 1 (FP g) rfl (by kernel_rfl) (fun _ _ _ h => h) (by rfl) (by assumption) ?_ ?_
 ·intro w5 hSw
  obtain ⟨s0, s1, s2⟩ := hSw
  go_simp
 try simp only [Act.put, List.getElem_toArray, List.getElem_cons_zero, List.getElem_cons_succ, List.setIfInBounds_toArray, List.set_cons_zero, List.set_cons_succ, List.length_cons]
 refine tk 2 (.pointer (some ⟨W.heap.size, 0, none⟩)) rfl (by kernel_rfl) (fun _ _ _ h => h) (by rfl) (by assumption) ?_ ?_
 ·intro w5 hSw
  obtain ⟨s0, s1, s2⟩ := hSw
  go_simp
 try simp only [Act.put, List.getElem_toArray, List.getElem_cons_zero, List.getElem_cons_succ, List.setIfInBounds_toArray, List.set_cons_zero, List.set_cons_succ, List.length_cons]
 refine tk 3 (.pointer (some ⟨W.heap.size, 2, none⟩)) rfl (by kernel_rfl) (fun _ _ _ h => h) (by rfl) (by assumption) ?_ ?_
 ·intro w5 hSw
  obtain ⟨s0, s1, s2⟩ := hSw
  go_simp
 try simp only [Act.put, List.getElem_toArray, List.getElem_cons_zero, List.getElem_cons_succ, List.setIfInBounds_toArray, List.set_cons_zero, List.set_cons_succ, List.length_cons]
 refine tk 4 (.string f) rfl (by kernel_rfl) (fun _ _ _ h => h) (by rfl) (by assumption) ?_ ?_
 ·intro w5 hSw
  obtain ⟨s0, s1, s2⟩ := hSw
  go_simp
 try simp only [Act.put, List.getElem_toArray, List.getElem_cons_zero, List.getElem_cons_succ, List.setIfInBounds_toArray, List.set_cons_zero, List.set_cons_succ, List.length_cons]
 refine tk 5 (.pointer (some ⟨W.heap.size, 0, none⟩)) rfl (by kernel_rfl) (fun _ _ _ h => h) (by rfl) (by assumption) ?_ ?_
 ·intro w5 hSw
  obtain ⟨s0, s1, s2⟩ := hSw
  go_simp
 try simp only [Act.put, List.getElem_toArray, List.getElem_cons_zero, List.getElem_cons_succ, List.setIfInBounds_toArray, List.set_cons_zero, List.set_cons_succ, List.length_cons]
 refine tk 6 (.pointer (some ⟨W.heap.size, 3, none⟩)) rfl (by kernel_rfl) (fun _ _ _ h => h) (by rfl) (by assumption) ?_ ?_
 ·intro w5 hSw
  obtain ⟨s0, s1, s2⟩ := hSw
  go_simp
 try simp only [Act.put, List.getElem_toArray, List.getElem_cons_zero, List.getElem_cons_succ, List.setIfInBounds_toArray, List.set_cons_zero, List.set_cons_succ, List.length_cons]
 refine tk 7 (.slice la ln lc) rfl (by kernel_rfl) (fun _ _ _ h => h) (by rfl) (by assumption) ?_ ?_
 ·intro w5 hSw
  obtain ⟨s0, s1, s2⟩ := hSw
  go_simp
 try simp only [Act.put, List.getElem_toArray, List.getElem_cons_zero, List.getElem_cons_succ, List.setIfInBounds_toArray, List.set_cons_zero, List.set_cons_succ, List.length_cons]
 refine rd1 8 (by kernel_rfl) rfl fun K hK => ?_
 go_simp
 refine hc.mono ?_
 rintro e Z1 ⟨⟨l', rfl, ql⟩, bz1⟩
 have gz1 : Kx P W1 Z1 := gD.trans (.of_below bz1)
 have qz1 := hT.a _ _ qD bz1
 have hp := hpr Z1 l' qz1 ql
 refine hK.out _ _ (f0 Z1 gz1) (fun _ => ?_)
 try simp only [Act.put, List.getElem_toArray, List.getElem_cons_zero, List.getElem_cons_succ, List.setIfInBounds_toArray, List.set_cons_zero, List.set_cons_succ, List.length_cons]
 clear hK hc hpr
 refine rd1 9 (by kernel_rfl) rfl fun K1 hK1 => ?_
 go_simp
 refine hp.mono ?_
 rintro e Z2 ⟨rfl, qz2, gz2⟩
 have gz3 : Kx P W1 Z2 := gz1.trans gz2
 refine hK1.out _ _ (f0 Z2 gz3) (fun _ => ?_)
 try simp only [Act.put, List.getElem_toArray, List.getElem_cons_zero, List.getElem_cons_succ, List.setIfInBounds_toArray, List.set_cons_zero, List.set_cons_succ, List.length_cons]
 clear hK1
 refine tk 10 (.string T) rfl (by kernel_rfl) (fun _ _ _ h => h) (by rfl) (by assumption) ?_ ?_
 ·intro w5 hSw
  obtain ⟨s0, s1, s2⟩ := hSw
  go_simp
 try simp only [Act.put, List.getElem_toArray, List.getElem_cons_zero, List.getElem_cons_succ, List.setIfInBounds_toArray, List.set_cons_zero, List.set_cons_succ, List.length_cons]
 refine wpAnyH_done (by kernel_rfl) ?_ _
 clear f0
 go_wp2
 go_ret
 exact ⟨rfl, qz2, (Kx.of_below w1).trans gz3⟩
set_option maxRecDepth 1000000 in
set_option maxHeartbeats 4000000 in
theorem say_q {A B : World → Prop} {P : Nat → Prop} {R : Nat} (hT : Tn A B P R) (g : Nat) {h : Hk} {T : ByteArray} (hn : whN h 118 false = 4) (hk : h.d.k = 3) (hpr : ∀ W, A W → Calls Tryz.prog 193 #[.agg (h.d.v ++ [FP g]).toArray] W fun e W' => e = .returned (.string T) ∧ B W' ∧ Kx P W W') (hBe : ∀ W, B W → Esc W) (hTs : T.size ≤ 9000) (w : World) (hR : R ≤ w.heap.size) (hq : A w) :
  Calls Tryz.prog 57 #[.agg h.v.toArray, SV (bareQ 118), .bool false, FP g, FS g] w fun e w' => e = .returned (.tuple #[.string T, .bool true]) ∧ B w' ∧ Kx P w w' := by
 have hW := fun w => which_any h 118 false w
 rw [hn] at hW
 clear hn
 have hact := fun w => act_any h 4 w
 have hMethod : ∀ w, Calls Tryz.prog 101 #[.int .i64 4] w fun e w' => e = .returned (.string (mT 4)) ∧ Below w.heap.size w w' := fun w => (method_any 4 w).mono (fun e w' ⟨e1, e2⟩ => ⟨e1, by rw [e2]; exact Below.refl _ _⟩)
 have hDo := fun W hr hA => do_q (v := 118) (m := mT 4) (np := false) hT g h.d hk hpr W hr hA
 have hTx := fun W (hE : Esc W) => text_v0 T false false false false (-1) (-1) W hE hTs (by decide)
 rw [text_off] at hTx
 rw [show hat h 4 = h.d from rfl] at hact
 unfold bareQ
 try dsimp only
 have hl := h.len
 obtain ⟨W1, hW1⟩ : ∃ W1, W1 = (w.alloc (.cells h.v.toArray 33)).alloc (.cells #[.bool false, .bool false, .bool false, .bool false, .bool false, .int .i64 (-1), .int .i64 (-1), .int .i32 118] 67) := ⟨_, rfl⟩
 have bh : Blk W1 w.heap.size h.v := by rw [hW1]; exact (Blk.new _ _ _).alloc _
 have bf : Blk W1 (w.heap.size + 1) [.bool false, .bool false, .bool false, .bool false, .bool false, .int .i64 (-1), .int .i64 (-1), .int .i32 118] := by
  rw [hW1]
  have := Blk.new (w.alloc (.cells h.v.toArray 33)) [.bool false, .bool false, .bool false, .bool false, .bool false, .int .i64 (-1), .int .i64 (-1), .int .i32 118] 67
  rwa [show (w.alloc (.cells h.v.toArray 33)).heap.size = w.heap.size + 1 by simp] at this
 have w1 : Below w.heap.size w W1 := by rw [hW1]; exact ((Below.refl _ _).alloc (Nat.le_refl _) _).alloc (by simp) _
 have q1 := hT.a _ _ hq w1
 have cv : W1.cell? ⟨w.heap.size + 1, 7, none⟩ = some (.int .i32 118) := bf.c 7 _ rfl
 have cs : W1.cell? ⟨w.heap.size + 1, 2, none⟩ = some (.bool false) := bf.c 2 _ rfl
 have n0 : ¬ P w.heap.size := fun h => by have := hT.p _ h; omega
 have n1 : ¬ P (w.heap.size + 1) := fun h => by have := hT.p _ h; omega
 have hrow := row_Hook
 clear hpr
 generalize h.d.v = XV at *
 generalize mT 4 = m at *
 generalize h.v = H at *
 have f1 : ∀ V, Kx P W1 V → (fun w' : World => w'.rangeAt w.heap.size 0 H ∧ w'.cell? ⟨w.heap.size + 1, 7, none⟩ = some (.int .i32 118)) V ∧ Blk V (w.heap.size + 1) [.bool false, .bool false, .bool false, .bool false, .bool false, .int .i64 (-1), .int .i64 (-1), .int .i32 118] := fun V gV => ⟨⟨(bh.kx gV n0).range, (bf.kx gV n1).c 7 _ rfl⟩, bf.kx gV n1⟩
 go_enter Tryz.func57, Tryz.ntmps57
 go_upto_region 1 with fail
 rw [← hW1]
 clear hW1
 go_upto_region 4 with (first
  | (refine wpl_ld row_Hook rfl (.tmp 5) rfl (vs := H) rfl bh.range hl ?_)
  | (go_at_call 98; refine (hW _).mono ?_; rintro e W2 ⟨rfl, bw2⟩))
 have q2 := hT.a _ _ q1 bw2
 have b02 : Below w.heap.size w W2 := w1.trans (bw2.mono w1.size)
 have bD : Below W2.heap.size W2 W2.drew := (Below.refl W2.heap.size W2).drew
 have gD : Kx P W2 W2.drew := .of_below bD
 have qD := hT.a _ _ q2 bD
 have f0 : ∀ V, Kx P W2 V → (fun w' : World => w'.rangeAt w.heap.size 0 H ∧ w'.cell? ⟨w.heap.size + 1, 7, none⟩ = some (.int .i32 118)) V := fun V gV => (f1 V ((Kx.of_below bw2).trans gV)).1
 have f2 : ∀ V, Kx P W2 V → Blk V (w.heap.size + 1) [.bool false, .bool false, .bool false, .bool false, .bool false, .int .i64 (-1), .int .i64 (-1), .int .i32 118] := fun V gV => (f1 V ((Kx.of_below bw2).trans gV)).2
 have hR2 : R ≤ W2.heap.size := Nat.le_trans hR b02.size
 clear f1 bh bf cv cs
 refine wp_region_held_drew (S := fun w' => w'.rangeAt w.heap.size 0 H ∧ w'.cell? ⟨w.heap.size + 1, 7, none⟩ = some (.int .i32 118)) (by kernel_rfl) (f0 _ gD) ?_
 intro hS
 refine wpAnyH_take (i := 0) (v := .agg H.toArray) rfl (by kernel_rfl) (by kernel_rfl) (by kernel_rfl) (fun _ _ _ h => h) ?_ (by assumption) ?_
 ·obtain ⟨⟨dd, r1, r2⟩, r3⟩ := hrow
  exact yieldsIf_load_mid rfl 33 (.tmp 5) rfl w.heap.size 0 rfl H dd (fun _ h => h.1) r1 r2 (by rw [hl]; exact r3)
 try simp only [Act.put, List.getElem_toArray, List.getElem_cons_zero, List.getElem_cons_succ, List.setIfInBounds_toArray, List.set_cons_zero, List.set_cons_succ, List.length_cons]
 refine tk 1 (.int .i64 4) rfl (by kernel_rfl) (fun _ _ _ h => h) (by rfl) (by assumption) ?_ ?_
 ·intro w5 hSw
  obtain ⟨s0, s1⟩ := hSw
  go_simp
 try simp only [Act.put, List.getElem_toArray, List.getElem_cons_zero, List.getElem_cons_succ, List.setIfInBounds_toArray, List.set_cons_zero, List.set_cons_succ, List.length_cons]
 refine tk 3 (.bool false) rfl (by kernel_rfl) (fun _ _ _ h => h) (by rfl) (by assumption) ?_ ?_
 ·intro w5 hSw
  obtain ⟨s0, s1⟩ := hSw
  go_simp
 try simp only [Act.put, List.getElem_toArray, List.getElem_cons_zero, List.getElem_cons_succ, List.setIfInBounds_toArray, List.set_cons_zero, List.set_cons_succ, List.length_cons]
 refine tk 4 (.pointer (some ⟨w.heap.size + 1, 7, none⟩)) rfl (by kernel_rfl) (fun _ _ _ h => h) (by rfl) (by assumption) ?_ ?_
 ·intro w5 hSw
  obtain ⟨s0, s1⟩ := hSw
  go_simp
 try simp only [Act.put, List.getElem_toArray, List.getElem_cons_zero, List.getElem_cons_succ, List.setIfInBounds_toArray, List.set_cons_zero, List.set_cons_succ, List.length_cons]
 refine tk 5 (.int .i32 118) rfl (by kernel_rfl) (fun _ _ _ h => h) (by rfl) (by assumption) ?_ ?_
 ·intro w5 hSw
  obtain ⟨s0, s1⟩ := hSw
  go_simp
 try simp only [Act.put, List.getElem_toArray, List.getElem_cons_zero, List.getElem_cons_succ, List.setIfInBounds_toArray, List.set_cons_zero, List.set_cons_succ, List.length_cons]
 refine tk 6 (.int .i64 4) rfl (by kernel_rfl) (fun _ _ _ h => h) (by rfl) (by assumption) ?_ ?_
 ·intro w5 hSw
  obtain ⟨s0, s1⟩ := hSw
  go_simp
 try simp only [Act.put, List.getElem_toArray, List.getElem_cons_zero, List.getElem_cons_succ, List.setIfInBounds_toArray, List.set_cons_zero, List.set_cons_succ, List.length_cons]
 refine tk 8 (FP g) rfl (by kernel_rfl) (fun _ _ _ h => h) (by rfl) (by assumption) ?_ ?_
 ·intro w5 hSw
  obtain ⟨s0, s1⟩ := hSw
  go_simp
 try simp only [Act.put, List.getElem_toArray, List.getElem_cons_zero, List.getElem_cons_succ, List.setIfInBounds_toArray, List.set_cons_zero, List.set_cons_succ, List.length_cons]
 refine tk 9 (FS g) rfl (by kernel_rfl) (fun _ _ _ h => h) (by rfl) (by assumption) ?_ ?_
 ·intro w5 hSw
  obtain ⟨s0, s1⟩ := hSw
  go_simp
 try simp only [Act.put, List.getElem_toArray, List.getElem_cons_zero, List.getElem_cons_succ, List.setIfInBounds_toArray, List.set_cons_zero, List.set_cons_succ, List.length_cons]
 refine rd1 2 (by kernel_rfl) rfl fun K hK => ?_
 go_simp
 refine (hact _).mono ?_
 rintro e Z1 ⟨rfl, bz1⟩
 have gz1 : Kx P W2 Z1 := gD.trans (.of_below bz1)
 have qz1 := hT.a _ _ qD bz1
 refine hK.out _ _ (f0 Z1 gz1) (fun _ => ?_)
 try simp only [Act.put, List.getElem_toArray, List.getElem_cons_zero, List.getElem_cons_succ, List.setIfInBounds_toArray, List.set_cons_zero, List.set_cons_succ, List.length_cons]
 refine rd1 7 (by kernel_rfl) rfl fun K1 hK1 => ?_
 go_simp
 refine (hMethod _).mono ?_
 rintro e Z2 ⟨rfl, bz2⟩
 have gz2 : Kx P W2 Z2 := gz1.trans (.of_below bz2)
 have qz2 := hT.a _ _ qz1 bz2
 refine hK1.out _ _ (f0 Z2 gz2) (fun _ => ?_)
 try simp only [Act.put, List.getElem_toArray, List.getElem_cons_zero, List.getElem_cons_succ, List.setIfInBounds_toArray, List.set_cons_zero, List.set_cons_succ, List.length_cons]
 refine rd1 10 (by kernel_rfl) rfl fun K2 hK2 => ?_
 go_simp
 refine (hDo Z2 (Nat.le_trans hR2 gz2.size) qz2).mono ?_
 rintro e Z3 ⟨rfl, q3, g3⟩
 have gz3 : Kx P W2 Z3 := gz2.trans g3
 refine hK2.out _ _ (f0 Z3 gz3) (fun hHeld => ?_)
 clear hK hK1 hK2
 try simp only [Act.put, List.getElem_toArray, List.getElem_cons_zero, List.getElem_cons_succ, List.setIfInBounds_toArray, List.set_cons_zero, List.set_cons_succ, List.length_cons]
 refine tk 11 (.tuple #[.string T, .bool true]) rfl (by kernel_rfl) (fun _ _ _ h => h) (by rfl) (by assumption) ?_ ?_
 ·intro w5 hSw
  obtain ⟨s0, s1⟩ := hSw
  go_simp
 try simp only [Act.put, List.getElem_toArray, List.getElem_cons_zero, List.getElem_cons_succ, List.setIfInBounds_toArray, List.set_cons_zero, List.set_cons_succ, List.length_cons]
 refine tk 12 (.string T) rfl (by kernel_rfl) (fun _ _ _ h => h) (by rfl) (by assumption) ?_ ?_
 ·intro w5 hSw
  obtain ⟨s0, s1⟩ := hSw
  go_simp
 try simp only [Act.put, List.getElem_toArray, List.getElem_cons_zero, List.getElem_cons_succ, List.setIfInBounds_toArray, List.set_cons_zero, List.set_cons_succ, List.length_cons]
 refine tk 13 (.bool true) rfl (by kernel_rfl) (fun _ _ _ h => h) (by rfl) (by assumption) ?_ ?_
 ·intro w5 hSw
  obtain ⟨s0, s1⟩ := hSw
  go_simp
 try simp only [Act.put, List.getElem_toArray, List.getElem_cons_zero, List.getElem_cons_succ, List.setIfInBounds_toArray, List.set_cons_zero, List.set_cons_succ, List.length_cons]
 refine tk 14 (.string T) rfl (by kernel_rfl) (fun _ _ _ h => h) (by rfl) (by assumption) ?_ ?_
 ·intro w5 hSw
  obtain ⟨s0, s1⟩ := hSw
  go_simp
 try simp only [Act.put, List.getElem_toArray, List.getElem_cons_zero, List.getElem_cons_succ, List.setIfInBounds_toArray, List.set_cons_zero, List.set_cons_succ, List.length_cons]
 refine tk 15 (.bool true) rfl (by kernel_rfl) (fun _ _ _ h => h) (by rfl) (by assumption) ?_ ?_
 ·intro w5 hSw
  obtain ⟨s0, s1⟩ := hSw
  go_simp
 try simp only [Act.put, List.getElem_toArray, List.getElem_cons_zero, List.getElem_cons_succ, List.setIfInBounds_toArray, List.set_cons_zero, List.set_cons_succ, List.length_cons]
 refine wpAnyH_done (by kernel_rfl) ?_ _
 have b6 := f2 Z3 gz3
 have hTx3 := hTx Z3 (hBe Z3 q3)
 clear f0 f2
 go_wp2_with (first
  | (refine wpl_ld row_Spec rfl (.tmp 6) rfl rfl b6.range rfl ?_)
  | (go_at_call 53; refine hTx3.mono ?_; rintro e W7 ⟨rfl, b7⟩))
 go_ret2
 exact ⟨rfl, hT.up q3 b7, ((Kx.of_below b02).trans gz3).trans (.of_below b7)⟩
end Go.Proofs.YtjfmhghpkefihaaGreatDoor
