/- Package hooks: what throws is caught and shown; Do and Say of it. -/
import Derived.Test.YtdlnmnipnkeabaaGreatDoorPt34
namespace Go.Proofs.YtdlnmnipnkeabaaGreatDoor
open Go.RowKit
set_option linter.unusedVariables false
set_option linter.unusedSimpArgs false
theorem doV_2J {x : Ac} (h : x.k = 2) (g : Value) : doV x g = .func (.func 230) #[.agg (x.v ++ [g]).toArray] #[] := by unfold doV; rw [if_neg (by omega), if_pos h]
theorem ieql_J (t : TypeId) (v : Value) (w : World) : (binOp BinOp.eql 20 (.iface t v) .nilIface).run Tryz.prog w = .ok (.bool false) w := by kernel_rfl
theorem ta_thrJ (D : Array Value) (w : World) : (Instr.typeAssert (.iface 328 (.agg D)) 20 328 true).run Tryz.prog w = .ok (.tuple #[.agg D, .bool true]) w := by kernel_rfl
theorem feql_fsJ (f : Fn) (a b : Array Value) (w : World) : (binOp BinOp.eql 207 (.func f a b) .nilFunc).run Tryz.prog w = .ok (.bool false) w := by kernel_rfl
set_option maxRecDepth 1000000 in
set_option maxHeartbeats 8000000 in
theorem caught_thrJ (x : Ac) (g : Value) (w : World) : Calls Tryz.prog 185 #[.func (.func 230) #[.agg (x.v ++ [g]).toArray] #[]] w fun e w' => e = .returned (.tuple #[.string ⟨#[]⟩, thV x.p]) ∧ Below w.heap.size w w' := by
 obtain ⟨W1, hW1⟩ : ∃ W1, W1 = w.alloc (.cells #[.nilIface] 20) := ⟨_, rfl⟩
 have hb : Blk W1 w.heap.size [.nilIface] := by rw [hW1]; exact Blk.new _ _ _
 have hw1 : Below w.heap.size w W1 := by rw [hW1]; exact (Below.refl _ _).alloc (Nat.le_refl _) _
 have hmf : ∀ (fn : Fn) (first cap : Array Value) (w : World), (Instr.makeFunc fn first cap).run Tryz.prog w = .ok (.func fn first cap) w := fun _ _ _ _ => rfl
 have hc := throws_any x g W1
 generalize (x.v ++ [g]).toArray = S at *
 go_enter_defers Tryz.func185, Tryz.ntmps185
 go_upto_region 1 with fail
 rw [← hW1]
 clear hW1
 go_wp2_with fail
 refine hc.mono ?_
 rintro e W2 ⟨rfl, hw2⟩
 have b2 := hb.up hw2
 have c2 := b2.c 0 _ rfl
 have z2 := b2.z 0
 refine leaves_cons (f := 232) (args := #[.pointer (some ⟨w.heap.size, 0, none⟩)]) (by simp) (by simp [go_sem]) ?_
 refine (xcatch_throw _ _ _ _ c2 z2).mono ?_
 rintro e u' w'' ⟨rfl, rfl, rfl⟩
 have b4 := b2.set 0 (by simp) (thV x.p)
 have r0 := b4.c 0 _ rfl
 refine ⟨.tuple #[.string ⟨#[]⟩, thV x.p], ?_, rfl, (hw1.trans (hw2.mono hw1.size)).setCell (Nat.le_refl _) _⟩
 unfold thV at *
 generalize x.p.v.toArray = D at *
 simp [results, Tryz.results185, go_sem, r0]
set_option maxRecDepth 1000000 in
set_option maxHeartbeats 8000000 in
theorem caught_shJ {A B : World → Prop} {P : Nat → Prop} {R : Nat} (hT : Tn A B P R) {S S2 : Value} {T : ByteArray} (h : FnC A B P 233 #[S, S2] (.string T)) (w : World) (hR : R ≤ w.heap.size) (hq : A w) :
  Calls Tryz.prog 185 #[.func (.func 233) #[] #[S, S2]] w fun e w' => e = .returned (.tuple #[.string T, .nilIface]) ∧ B w' ∧ Kx P w w' := by
 obtain ⟨W1, hW1⟩ : ∃ W1, W1 = w.alloc (.cells #[.nilIface] 20) := ⟨_, rfl⟩
 have hb : Blk W1 w.heap.size [.nilIface] := by rw [hW1]; exact Blk.new _ _ _
 have hw1 : Below w.heap.size w W1 := by rw [hW1]; exact (Below.refl _ _).alloc (Nat.le_refl _) _
 have hne : ¬ P w.heap.size := fun h => by have := hT.p _ h; omega
 have hmf : ∀ (fn : Fn) (first cap : Array Value) (w : World), (Instr.makeFunc fn first cap).run Tryz.prog w = .ok (.func fn first cap) w := fun _ _ _ _ => rfl
 have hc := h W1 (hT.a _ _ hq hw1)
 go_enter_defers Tryz.func185, Tryz.ntmps185
 go_upto_region 1 with fail
 rw [← hW1]
 clear hW1
 go_wp2_with fail
 refine hc.mono ?_
 rintro e W2 ⟨rfl, q2, g2⟩
 have b2 := hb.kx g2 hne
 have c2 := b2.c 0 _ rfl
 have z2 := b2.z 0
 go_wp2
 refine leaves_cons (f := 232) (args := #[.pointer (some ⟨w.heap.size, 0, none⟩)]) (by simp) (by simp [go_sem]) ?_
 have b3 := b2.set 0 (by simp) .nilIface
 refine (xcatch_idle _ _ _ (b3.c 0 _ rfl) (b3.z 0)).mono ?_
 rintro e u' w'' ⟨rfl, rfl, rfl⟩
 have b4 := b3.set 0 (by simp) .nilIface
 have r0 := b4.c 0 _ rfl
 refine ⟨.tuple #[.string T, .nilIface], ?_, rfl, hT.b _ _ q2 (((Kx.refl _ _).setCell _ _ (Or.inl hR) _).setCell _ _ (Or.inl hR) _), (((Kx.of_below hw1).trans g2).setCell _ _ (Or.inr (Nat.le_refl _)) _).setCell _ _ (Or.inr (Nat.le_refl _)) _⟩
 simp [results, Tryz.results185, go_sem, r0]
abbrev ShQ (A B : World → Prop) (P : Nat → Prop) (R g : Nat) (d : Ds) (T : ByteArray) : Prop := ∀ W, R ≤ W.heap.size → A W → Calls Tryz.prog 117 #[.pointer (some ⟨g, 0, none⟩), .agg d.v.toArray] W fun e W' => e = .returned (.string T) ∧ B W' ∧ Kx P W W'
set_option maxRecDepth 1000000 in
set_option maxHeartbeats 8000000 in
theorem shown1_J {A B : World → Prop} {P : Nat → Prop} {R : Nat} (hT : Tn A B P R) {g B1 B2 : Nat} {d : Ds} (hn : d.ns = .no) (hp : d.ps = .no) {T : ByteArray} (hSh : ShQ A B P R g d T) (n1 : ¬ P B1) (n2 : ¬ P B2) :
  FnC (fun W => A W ∧ R ≤ W.heap.size ∧ Blk W B1 [FS g] ∧ Blk W B2 d.v) B P 233 #[.pointer (some ⟨B1, 0, none⟩), .pointer (some ⟨B2, 0, none⟩)] (.string T) := by
 intro W ⟨hq, hR, b1, b2⟩
 have f0 : ∀ V, Kx P W V → (fun w' : World => w'.cell? ⟨B1, 0, none⟩ = some (FS g) ∧ w'.rangeAt B2 0 d.v) V := fun V hV => ⟨(b1.kx hV n1).c 0 _ rfl, (b2.kx hV n2).range⟩
 have bD : Below W.heap.size W W.drew := (Below.refl W.heap.size W).drew
 have gD : Kx P W W.drew := .of_below bD
 have hc := copied_nil d hn hp W.drew
 have qD : A W.drew := hT.a _ _ hq bD
 have hl := d.len
 have hrow := row_Desc
 unfold ShQ at hSh
 clear b1 b2 hn hp
 generalize d.v = D at *
 go_enter Tryz.func233, Tryz.ntmps233
 go_upto_region 1 with fail
 refine wp_region_held_drew (S := fun w' => w'.cell? ⟨B1, 0, none⟩ = some (FS g) ∧ w'.rangeAt B2 0 D) (by kernel_rfl) (f0 _ gD) ?_
 intro hS
 refine tk 0 (FS g) rfl (by kernel_rfl) (fun _ _ _ h => h) (by rfl) (by assumption) ?_ ?_
 ·intro w5 hSw
  obtain ⟨s6, s0⟩ := hSw
  go_simp
 try simp only [Act.put, List.getElem_toArray, List.getElem_cons_zero, List.getElem_cons_succ, List.setIfInBounds_toArray, List.set_cons_zero, List.set_cons_succ, List.length_cons]
 refine tk 1 (.pointer (some ⟨B2, 0, none⟩)) rfl (by kernel_rfl) (fun _ _ _ h => h) (by rfl) (by assumption) ?_ ?_
 ·intro w5 hSw
  obtain ⟨s6, s0⟩ := hSw
  go_simp
 try simp only [Act.put, List.getElem_toArray, List.getElem_cons_zero, List.getElem_cons_succ, List.setIfInBounds_toArray, List.set_cons_zero, List.set_cons_succ, List.length_cons]
 refine wpAnyH_take (i := 2) (v := .agg D.toArray) rfl (by kernel_rfl) (by kernel_rfl) (by kernel_rfl) (fun _ _ _ h => h) ?_ (by assumption) ?_
 ·obtain ⟨⟨dd, r1, r2⟩, r3⟩ := hrow
  exact yieldsIf_load_mid rfl 29 (.tmp 4) rfl B2 0 rfl D dd (fun _ h => h.2) r1 r2 (by rw [hl]; exact r3)
 try simp only [Act.put, List.getElem_toArray, List.getElem_cons_zero, List.getElem_cons_succ, List.setIfInBounds_toArray, List.set_cons_zero, List.set_cons_succ, List.length_cons]
 refine rd1 3 (by kernel_rfl) rfl fun K hK => ?_
 go_simp
 refine hc.mono ?_
 rintro e Z ⟨rfl, hbZ⟩
 have gZ : Kx P W Z := gD.trans (.of_below hbZ)
 have qZ := hT.a _ _ qD hbZ
 have hSh' := hSh Z (Nat.le_trans hR gZ.size) qZ
 clear hSh hc
 refine hK.out _ _ (f0 Z gZ) (fun hHeld => ?_)
 try simp only [Act.put, List.getElem_toArray, List.getElem_cons_zero, List.getElem_cons_succ, List.setIfInBounds_toArray, List.set_cons_zero, List.set_cons_succ, List.length_cons]
 refine rd1 4 (by kernel_rfl) rfl fun K1 hK1 => ?_
 go_simp
 refine hSh'.mono ?_
 rintro e Z2 ⟨rfl, q2, g2⟩
 refine hK1.out _ _ (f0 Z2 (gZ.trans g2)) (fun _ => ?_)
 try simp only [Act.put, List.getElem_toArray, List.getElem_cons_zero, List.getElem_cons_succ, List.setIfInBounds_toArray, List.set_cons_zero, List.set_cons_succ, List.length_cons]
 refine rd1 5 (by kernel_rfl) rfl fun K2 hK2 => ?_
 go_simp
 refine hK2.out _ _ (f0 Z2 (gZ.trans g2)) (fun _ => ?_)
 try simp only [Act.put, List.getElem_toArray, List.getElem_cons_zero, List.getElem_cons_succ, List.setIfInBounds_toArray, List.set_cons_zero, List.set_cons_succ, List.length_cons]
 refine wpAnyH_done (by kernel_rfl) ?_ _
 clear hK hK1 hK2
 go_wp2
 go_ret
 exact ⟨rfl, q2, gZ.trans g2⟩
set_option maxRecDepth 1000000 in
set_option maxHeartbeats 8000000 in
theorem shown_J {A B : World → Prop} {P : Nat → Prop} {R : Nat} (hT : Tn A B P R) {g : Nat} {d : Ds} (hn : d.ns = .no) (hp : d.ps = .no) {T : ByteArray} (hSh : ShQ A B P R g d T) (w : World) (hR : R ≤ w.heap.size) (hq : A w) :
  Calls Tryz.prog 186 #[thV d, FS g] w fun e w' => e = .returned (.string T) ∧ B w' ∧ Kx P w w' := by
 have hmf : ∀ (fn : Fn) (first cap : Array Value) (w : World), (Instr.makeFunc fn first cap).run Tryz.prog w = .ok (.func fn first cap) w := fun _ _ _ _ => rfl
 obtain ⟨W1, hW1⟩ : ∃ W1, W1 = w.alloc (.cells #[FS g] 207) := ⟨_, rfl⟩
 have b1 : Blk W1 w.heap.size [FS g] := by rw [hW1]; exact Blk.new _ _ _
 have w1 : Below w.heap.size w W1 := by rw [hW1]; exact (Below.refl _ _).alloc (Nat.le_refl _) _
 have z1 : W1.heap.size = w.heap.size + 1 := by rw [hW1]; simp
 obtain ⟨W2, hW2⟩ : ∃ W2, W2 = W1.alloc (.cells #[.int .i64 0, .string ⟨#[]⟩, .int .u64 0, .int .u64 0, .string ⟨#[]⟩, .slice none 0 0, .slice none 0 0, .int .i64 0] 328) := ⟨_, rfl⟩
 have b2 : Blk W2 (w.heap.size + 1) Ds.no.v := by rw [hW2, ← z1]; exact Blk.new _ Ds.no.v _
 have b12 : Blk W2 w.heap.size [FS g] := by rw [hW2]; exact b1.alloc _
 have w2 : Below w.heap.size w W2 := by rw [hW2]; exact w1.alloc w1.size _
 obtain ⟨W3, hW3⟩ : ∃ W3, W3 = W2.setCells (w.heap.size + 1) 0 d.v := ⟨_, rfl⟩
 have b3 : Blk W3 (w.heap.size + 1) d.v := by rw [hW3]; exact b2.all _ rfl
 have b13 : Blk W3 w.heap.size [FS g] := by rw [hW3]; exact b12.oth (by omega) _ _
 have w3 : Below w.heap.size w W3 := by rw [hW3]; exact xbelow_sc w2 (by omega) _ _
 have g3 : Kx P w W3 := .of_below w3
 have q3 := hT.a _ _ hq w3
 have m0 : ¬ P w.heap.size := fun h => by have := hT.p _ h; omega
 have m1 : ¬ P (w.heap.size + 1) := fun h => by have := hT.p _ h; omega
 have hF := shown1_J hT hn hp hSh m0 m1
 have hT2 : Tn (fun W => A W ∧ R ≤ W.heap.size ∧ Blk W w.heap.size [FS g] ∧ Blk W (w.heap.size + 1) d.v) B P R := ⟨fun W W' h b => ⟨hT.a _ _ h.1 b, Nat.le_trans h.2.1 b.size, h.2.2.1.up b, h.2.2.2.up b⟩, hT.b, hT.p⟩
 have hR3 : R ≤ W3.heap.size := Nat.le_trans hR w3.size
 have hC := caught_shJ hT2 hF W3 hR3 ⟨q3, hR3, b13, b3⟩
 have hta := fun w => ta_thrJ d.v.toArray w
 have c13 := b13.c 0 _ rfl
 have hne := fun w => feql_fsJ (.func 117) #[.pointer (some ⟨g, 0, none⟩)] #[] w
 have hl := d.len
 have h1 := d.one
 unfold thV
 clear hF b3 hT2 hSh
 go_enter Tryz.func186, Tryz.ntmps186
 go_upto_region 1 with fail
 rw [← hW1]
 clear hW1
 go_upto_region 2 with (first
  | (refine wpl_st row_thrown rfl (.tmp 5) (.tmp 12) rfl (us := d.v) rfl rfl (by rw [← hW2]; exact b2) rfl hl h1 ?_; rw [← hW2, ← hW3]; clear hW2 hW3))
 generalize d.v.toArray = D at *
 go_wp2_with (go_at_call 185; refine hC.mono ?_; rintro e w4 ⟨rfl, q4, g4⟩)
 go_ret
 exact ⟨rfl, q4, g3.trans g4⟩
abbrev pnJ (v : Int) (m T : ByteArray) : ByteArray := bT (vB v) ([80, 65, 78, 73, 67, 61] ++ m.data.toList ++ [32, 109, 101, 116, 104, 111, 100, 58, 32] ++ T.data.toList)
set_option maxRecDepth 1000000 in
set_option maxHeartbeats 8000000 in
theorem do_nilJ {B : World → Prop} {P : Nat → Prop} {R : Nat} (hT : Tn B B P R) (g : Nat) (x : Ac) {v : Int} {m : ByteArray} (hk : x.k = 2) : DoQ B B P R g x true v m (⟨#[60, 110, 105, 108, 62]⟩) false := fun w hR hq => by
 obtain ⟨M, hM⟩ : ∃ M, M = x.v ++ [FP g] := ⟨_, rfl⟩
 have hD : ∀ w, Calls Tryz.prog 184 #[.agg M.toArray] w fun e w' => e = .returned (doV x (FP g)) ∧ Below w.heap.size w w' := by rw [hM]; exact fun w => does_any x (FP g) w
 have hB : ∀ w, (Instr.build 288 #[(0, .agg x.v.toArray), (1, FP g)]).run Tryz.prog w = .ok (.agg M.toArray) w := by rw [hM]; exact fun w => bld_script1 x (FP g) ⟨_, _, _, rfl⟩ w
 rw [doV_2J hk, ← hM] at hD
 have hC : ∀ W, Calls Tryz.prog 185 #[.func (.func 230) #[.agg M.toArray] #[]] W fun e w' => e = .returned (.tuple #[.string ⟨#[]⟩, thV x.p]) ∧ Below W.heap.size W w' := fun W => by rw [hM]; exact caught_thrJ x (FP g) W
 have hf := fun w => feql_fstr (.func 230) #[.agg M.toArray] #[] w
 have hi := fun w => ieql_J 328 (.agg x.p.v.toArray) w
 clear hk
 obtain ⟨W1, hW1⟩ : ∃ W1, W1 = w.alloc (.cells x.v.toArray 31) := ⟨_, rfl⟩
 have hb : Blk W1 w.heap.size x.v := by rw [hW1]; exact Blk.new _ _ _
 have w1 : Below w.heap.size w W1 := by rw [hW1]; exact (Below.refl _ _).alloc (Nat.le_refl _) _
 have q2 := hT.a _ _ hq w1
 have hl := x.len
 generalize hL : x.v = L at *
 clear hM hL
 go_enter Tryz.func142, Tryz.ntmps142
 go_upto_region 1 with fail
 rw [← hW1]
 clear hW1
 go_upto_region 2 with (first
  | (refine wpl_ld row_Act rfl (.tmp 6) rfl (vs := L) rfl hb.range hl ?_)
  | (refine wpl_bld rfl _ _ rfl [(0, .agg L.toArray), (1, FP g)] rfl (hB _) ?_)
  | (go_at_call 184; refine (hD _).mono ?_; rintro e w2 ⟨rfl, b2⟩))
 unfold thV at hC
 generalize x.p.v.toArray = D at *
 go_wp2_with (go_at_call 185; refine (hC _).mono ?_; rintro e w3 ⟨rfl, b3⟩)
 go_ret2
 exact ⟨rfl, hT.up (hT.up q2 b2) b3, (Kx.of_below w1).trans ((Kx.of_below b2).trans (.of_below b3))⟩
set_option maxRecDepth 1000000 in
set_option maxHeartbeats 8000000 in
theorem do_thrJ {A B : World → Prop} {P : Nat → Prop} {R : Nat} (hT : Tn A B P R) (g : Nat) (x : Ac) {v : Int} {m : ByteArray} (hk : x.k = 2) (hn : x.p.ns = .no) (hp : x.p.ps = .no) {T : ByteArray} (hz : T.size ≤ 9000) (hm : m.size ≤ 1000) (hSh : ShQ A B P R g x.p T) : DoQ A B P R g x false v m (pnJ v m T) false := fun w hR hq => by
 obtain ⟨M, hM⟩ : ∃ M, M = x.v ++ [FP g] := ⟨_, rfl⟩
 have hD : ∀ w, Calls Tryz.prog 184 #[.agg M.toArray] w fun e w' => e = .returned (doV x (FP g)) ∧ Below w.heap.size w w' := by rw [hM]; exact fun w => does_any x (FP g) w
 have hB : ∀ w, (Instr.build 288 #[(0, .agg x.v.toArray), (1, FP g)]).run Tryz.prog w = .ok (.agg M.toArray) w := by rw [hM]; exact fun w => bld_script1 x (FP g) ⟨_, _, _, rfl⟩ w
 rw [doV_2J hk, ← hM] at hD
 have hC : ∀ W, Calls Tryz.prog 185 #[.func (.func 230) #[.agg M.toArray] #[]] W fun e w' => e = .returned (.tuple #[.string ⟨#[]⟩, thV x.p]) ∧ Below W.heap.size W w' := fun W => by rw [hM]; exact caught_thrJ x (FP g) W
 have hf := fun w => feql_fstr (.func 230) #[.agg M.toArray] #[] w
 have hi := fun w => ieql_J 328 (.agg x.p.v.toArray) w
 have hS := fun W hr h => shown_J hT hn hp hSh W hr h
 have hP : ∀ W, Calls Tryz.prog 14 #[.int .i32 v, .string m, .string T] W fun e w' => e = .returned (.string (pnJ v m T)) ∧ Below W.heap.size W w' := fun W => bpanic_big v m hm _ hz W
 clear hSh hn hp hz
 generalize pnJ v m T = RR at *
 clear hk
 obtain ⟨W1, hW1⟩ : ∃ W1, W1 = w.alloc (.cells x.v.toArray 31) := ⟨_, rfl⟩
 have hb : Blk W1 w.heap.size x.v := by rw [hW1]; exact Blk.new _ _ _
 have w1 : Below w.heap.size w W1 := by rw [hW1]; exact (Below.refl _ _).alloc (Nat.le_refl _) _
 have q2 := hT.a _ _ hq w1
 have hl := x.len
 generalize hL : x.v = L at *
 clear hM hL
 go_enter Tryz.func142, Tryz.ntmps142
 go_upto_region 1 with fail
 rw [← hW1]
 clear hW1
 go_upto_region 2 with (first
  | (refine wpl_ld row_Act rfl (.tmp 6) rfl (vs := L) rfl hb.range hl ?_)
  | (refine wpl_bld rfl _ _ rfl [(0, .agg L.toArray), (1, FP g)] rfl (hB _) ?_)
  | (go_at_call 184; refine (hD _).mono ?_; rintro e w2 ⟨rfl, b2⟩))
 unfold thV at hC hS
 generalize x.p.v.toArray = D at *
 go_wp2_with (first
  | (go_at_call 185; refine (hC _).mono ?_; rintro e w3 ⟨rfl, b3⟩)
  | (go_at_call 186; refine (hS _ (Nat.le_trans hR (w1.trans ((b2.mono w1.size).trans (b3.mono (w1.trans (b2.mono w1.size)).size))).size) (hT.a _ _ (hT.a _ _ q2 b2) b3)).mono ?_; rintro e w4 ⟨rfl, q4, g4⟩)
  | (go_at_call 14; refine (hP _).mono ?_; rintro e w5 ⟨rfl, b5⟩))
 go_ret2
 exact ⟨rfl, hT.up q4 b5, (Kx.of_below w1).trans ((Kx.of_below b2).trans ((Kx.of_below b3).trans (g4.trans (.of_below b5))))⟩
set_option maxRecDepth 1000000 in
set_option maxHeartbeats 8000000 in
theorem sayF_3 {A B : World → Prop} {P : Nat → Prop} {R : Nat} (hT : Tn A B P R) {g : Nat} {h : Hk} {f : Sq} {np : Bool} {T : ByteArray} {x : Ac} (hx : hat h 3 = x) (hn : whN h f.verb f.sh = 3) (hDo : DoQ A B P R g x np f.verb (mT 3) T false) (w : World) (hR : R ≤ w.heap.size) (hq : A w) :
  Calls Tryz.prog 114 #[.agg h.v.toArray, SV f, .bool np, FP g, FS g] w fun e w' => e = .returned (.tuple #[.string T, .bool true]) ∧ B w' ∧ Kx P w w' := by
 change Calls Tryz.prog 114 #[.agg h.v.toArray, .agg (spL f).toArray, .bool np, FP g, FS g] w _
 have hW := fun w => which_any h f.verb f.sh w
 rw [hn] at hW
 clear hn
 have hact := fun w => act_any h 3 w
 rw [hx] at hact
 have hMethod : ∀ w, Calls Tryz.prog 144 #[.int .i64 3] w fun e w' => e = .returned (.string (mT 3)) ∧ Below w.heap.size w w' := fun w => (method_any 3 w).mono (fun e w' ⟨e1, e2⟩ => ⟨e1, by rw [e2]; exact Below.refl _ _⟩)
 obtain ⟨W1, hW1⟩ : ∃ W1, W1 = (w.alloc (.cells h.v.toArray 34)).alloc (.cells (spL f).toArray 113) := ⟨_, rfl⟩
 have bh : Blk W1 w.heap.size h.v := by rw [hW1]; exact (Blk.new _ _ _).alloc _
 have bf : Blk W1 (w.heap.size + 1) (spL f) := by
  rw [hW1]
  have := Blk.new (w.alloc (.cells h.v.toArray 34)) (spL f) 113
  rwa [show (w.alloc (.cells h.v.toArray 34)).heap.size = w.heap.size + 1 by simp] at this
 have w1 : Below w.heap.size w W1 := by rw [hW1]; exact ((Below.refl _ _).alloc (Nat.le_refl _) _).alloc (by simp) _
 have cv : W1.cell? ⟨w.heap.size + 1, 7, none⟩ = some (.int .i32 f.verb) := bf.c 7 _ rfl
 have cs : W1.cell? ⟨w.heap.size + 1, 2, none⟩ = some (.bool f.sh) := bf.c 2 _ rfl
 have hl := h.len
 have hlf : (spL f).length = 8 := rfl
 have q1 := hT.a _ _ hq w1
 have n0 : ¬ P w.heap.size := fun h => by have := hT.p _ h; omega
 have n1 : ¬ P (w.heap.size + 1) := fun h => by have := hT.p _ h; omega
 have hrow := row_Hook
 have hrf := row_Spec
 unfold DoQ at hDo
 clear hx
 generalize x.v = XV at *
 generalize mT 3 = m at *
 generalize h.v = H at *
 generalize spL f = G at *
 generalize f.verb = v at *
 generalize f.sh = sh at *
 have f1 : ∀ V, Kx P W1 V → (fun w' : World => w'.rangeAt w.heap.size 0 H ∧ w'.cell? ⟨w.heap.size + 1, 7, none⟩ = some (.int .i32 v)) V ∧ Blk V (w.heap.size + 1) G := fun V gV => ⟨⟨(bh.kx gV n0).range, gV.cell cv n1⟩, bf.kx gV n1⟩
 go_enter Tryz.func114, Tryz.ntmps114
 go_upto_region 1 with fail
 rw [← hW1]
 clear hW1
 go_upto_region 4 with (first
  | (refine wpl_ld row_Hook rfl (.tmp 5) rfl (vs := H) rfl bh.range hl ?_)
  | (go_at_call 141; refine (hW _).mono ?_; rintro e W2 ⟨rfl, bw2⟩))
 have q2 := hT.a _ _ q1 bw2
 have b02 : Below w.heap.size w W2 := w1.trans (bw2.mono w1.size)
 have bD : Below W2.heap.size W2 W2.drew := (Below.refl W2.heap.size W2).drew
 have gD : Kx P W2 W2.drew := .of_below bD
 have qD := hT.a _ _ q2 bD
 have f0 : ∀ V, Kx P W2 V → (fun w' : World => w'.rangeAt w.heap.size 0 H ∧ w'.cell? ⟨w.heap.size + 1, 7, none⟩ = some (.int .i32 v)) V := fun V gV => (f1 V ((Kx.of_below bw2).trans gV)).1
 have f2 : ∀ V, Kx P W2 V → Blk V (w.heap.size + 1) G := fun V gV => (f1 V ((Kx.of_below bw2).trans gV)).2
 have hR2 : R ≤ W2.heap.size := Nat.le_trans hR b02.size
 clear f1 bh bf cv cs
 refine wp_region_held_drew (S := fun w' => w'.rangeAt w.heap.size 0 H ∧ w'.cell? ⟨w.heap.size + 1, 7, none⟩ = some (.int .i32 v)) (by kernel_rfl) (f0 _ gD) ?_
 intro hS
 refine wpAnyH_take (i := 0) (v := .agg H.toArray) rfl (by kernel_rfl) (by kernel_rfl) (by kernel_rfl) (fun _ _ _ h => h) ?_ (by assumption) ?_
 ·obtain ⟨⟨dd, r1, r2⟩, r3⟩ := hrow
  exact yieldsIf_load_mid rfl 34 (.tmp 5) rfl w.heap.size 0 rfl H dd (fun _ h => h.1) r1 r2 (by rw [hl]; exact r3)
 try simp only [Act.put, List.getElem_toArray, List.getElem_cons_zero, List.getElem_cons_succ, List.setIfInBounds_toArray, List.set_cons_zero, List.set_cons_succ, List.length_cons]
 refine tk 1 (.int .i64 3) rfl (by kernel_rfl) (fun _ _ _ h => h) (by rfl) (by assumption) ?_ ?_
 ·intro w5 hSw
  obtain ⟨s0, s1⟩ := hSw
  go_simp
 try simp only [Act.put, List.getElem_toArray, List.getElem_cons_zero, List.getElem_cons_succ, List.setIfInBounds_toArray, List.set_cons_zero, List.set_cons_succ, List.length_cons]
 refine tk 3 (.bool np) rfl (by kernel_rfl) (fun _ _ _ h => h) (by rfl) (by assumption) ?_ ?_
 ·intro w5 hSw
  obtain ⟨s0, s1⟩ := hSw
  go_simp
 try simp only [Act.put, List.getElem_toArray, List.getElem_cons_zero, List.getElem_cons_succ, List.setIfInBounds_toArray, List.set_cons_zero, List.set_cons_succ, List.length_cons]
 refine tk 4 (.pointer (some ⟨w.heap.size + 1, 7, none⟩)) rfl (by kernel_rfl) (fun _ _ _ h => h) (by rfl) (by assumption) ?_ ?_
 ·intro w5 hSw
  obtain ⟨s0, s1⟩ := hSw
  go_simp
 try simp only [Act.put, List.getElem_toArray, List.getElem_cons_zero, List.getElem_cons_succ, List.setIfInBounds_toArray, List.set_cons_zero, List.set_cons_succ, List.length_cons]
 refine tk 5 (.int .i32 v) rfl (by kernel_rfl) (fun _ _ _ h => h) (by rfl) (by assumption) ?_ ?_
 ·intro w5 hSw
  obtain ⟨s0, s1⟩ := hSw
  go_simp
 try simp only [Act.put, List.getElem_toArray, List.getElem_cons_zero, List.getElem_cons_succ, List.setIfInBounds_toArray, List.set_cons_zero, List.set_cons_succ, List.length_cons]
 refine tk 6 (.int .i64 3) rfl (by kernel_rfl) (fun _ _ _ h => h) (by rfl) (by assumption) ?_ ?_
 ·intro w5 hSw
  obtain ⟨s0, s1⟩ := hSw
  go_simp
 try simp only [Act.put, List.getElem_toArray, List.getElem_cons_zero, List.getElem_cons_succ, List.setIfInBounds_toArray, List.set_cons_zero, List.set_cons_succ, List.length_cons]
 refine tk 8 (FP g) rfl (by kernel_rfl) (fun _ _ _ h => h) (by rfl) (by assumption) ?_ ?_
 ·intro w5 hSw
  obtain ⟨s0, s1⟩ := hSw
  go_simp
 try simp only [Act.put, List.getElem_toArray, List.getElem_cons_zero, List.getElem_cons_succ, List.setIfInBounds_toArray, List.set_cons_zero, List.set_cons_succ, List.length_cons]
 refine tk 9 (FS g) rfl (by kernel_rfl) (fun _ _ _ h => h) (by rfl) (by assumption) ?_ ?_
 ·intro w5 hSw
  obtain ⟨s0, s1⟩ := hSw
  go_simp
 try simp only [Act.put, List.getElem_toArray, List.getElem_cons_zero, List.getElem_cons_succ, List.setIfInBounds_toArray, List.set_cons_zero, List.set_cons_succ, List.length_cons]
 refine rd1 2 (by kernel_rfl) rfl fun K hK => ?_
 go_simp
 refine (hact _).mono ?_
 rintro e Z1 ⟨rfl, bz1⟩
 have gz1 : Kx P W2 Z1 := gD.trans (.of_below bz1)
 have qz1 := hT.a _ _ qD bz1
 refine hK.out _ _ (f0 Z1 gz1) (fun _ => ?_)
 try simp only [Act.put, List.getElem_toArray, List.getElem_cons_zero, List.getElem_cons_succ, List.setIfInBounds_toArray, List.set_cons_zero, List.set_cons_succ, List.length_cons]
 refine rd1 7 (by kernel_rfl) rfl fun K1 hK1 => ?_
 go_simp
 refine (hMethod _).mono ?_
 rintro e Z2 ⟨rfl, bz2⟩
 have gz2 : Kx P W2 Z2 := gz1.trans (.of_below bz2)
 have qz2 := hT.a _ _ qz1 bz2
 refine hK1.out _ _ (f0 Z2 gz2) (fun _ => ?_)
 try simp only [Act.put, List.getElem_toArray, List.getElem_cons_zero, List.getElem_cons_succ, List.setIfInBounds_toArray, List.set_cons_zero, List.set_cons_succ, List.length_cons]
 refine rd1 10 (by kernel_rfl) rfl fun K2 hK2 => ?_
 go_simp
 refine (hDo Z2 (Nat.le_trans hR2 gz2.size) qz2).mono ?_
 rintro e Z3 ⟨rfl, q3, g3⟩
 have gz3 : Kx P W2 Z3 := gz2.trans g3
 refine hK2.out _ _ (f0 Z3 gz3) (fun hHeld => ?_)
 clear hK hK1 hK2
 try simp only [Act.put, List.getElem_toArray, List.getElem_cons_zero, List.getElem_cons_succ, List.setIfInBounds_toArray, List.set_cons_zero, List.set_cons_succ, List.length_cons]
 refine tk 11 (.tuple #[.string T, .bool false]) rfl (by kernel_rfl) (fun _ _ _ h => h) (by rfl) (by assumption) ?_ ?_
 ·intro w5 hSw
  obtain ⟨s0, s1⟩ := hSw
  go_simp
 try simp only [Act.put, List.getElem_toArray, List.getElem_cons_zero, List.getElem_cons_succ, List.setIfInBounds_toArray, List.set_cons_zero, List.set_cons_succ, List.length_cons]
 refine tk 12 (.string T) rfl (by kernel_rfl) (fun _ _ _ h => h) (by rfl) (by assumption) ?_ ?_
 ·intro w5 hSw
  obtain ⟨s0, s1⟩ := hSw
  go_simp
 try simp only [Act.put, List.getElem_toArray, List.getElem_cons_zero, List.getElem_cons_succ, List.setIfInBounds_toArray, List.set_cons_zero, List.set_cons_succ, List.length_cons]
 refine tk 13 (.bool false) rfl (by kernel_rfl) (fun _ _ _ h => h) (by rfl) (by assumption) ?_ ?_
 ·intro w5 hSw
  obtain ⟨s0, s1⟩ := hSw
  go_simp
 try simp only [Act.put, List.getElem_toArray, List.getElem_cons_zero, List.getElem_cons_succ, List.setIfInBounds_toArray, List.set_cons_zero, List.set_cons_succ, List.length_cons]
 refine tk 14 (.string T) rfl (by kernel_rfl) (fun _ _ _ h => h) (by rfl) (by assumption) ?_ ?_
 ·intro w5 hSw
  obtain ⟨s0, s1⟩ := hSw
  go_simp
 try simp only [Act.put, List.getElem_toArray, List.getElem_cons_zero, List.getElem_cons_succ, List.setIfInBounds_toArray, List.set_cons_zero, List.set_cons_succ, List.length_cons]
 refine tk 15 (.bool false) rfl (by kernel_rfl) (fun _ _ _ h => h) (by rfl) (by assumption) ?_ ?_
 ·intro w5 hSw
  obtain ⟨s0, s1⟩ := hSw
  go_simp
 try simp only [Act.put, List.getElem_toArray, List.getElem_cons_zero, List.getElem_cons_succ, List.setIfInBounds_toArray, List.set_cons_zero, List.set_cons_succ, List.length_cons]
 refine wpAnyH_done (by kernel_rfl) ?_ _
 clear f0 f2
 go_wp2
 go_ret2
 exact ⟨rfl, q3, (Kx.of_below b02).trans gz3⟩
end Go.Proofs.YtdlnmnipnkeabaaGreatDoor
