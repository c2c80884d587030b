/- ZTree, ZFlat: these texts in one. -/
import Derived.Test.YtdlnmnipnkeabaaGreatDoorPt10
namespace Go.Proofs.YtdlnmnipnkeabaaGreatDoor
open Go.RowKit
set_option linter.unusedVariables false
set_option linter.unusedSimpArgs false
abbrev prT (C : Nat) (dp : Int) (av : Value) (nx : Int) : List Value := [.pointer (some ⟨C, 0, none⟩), .int .i64 dp, av, .int .i64 nx]
structure IsCall (w : World) (C M : Nat) (n : Int) : Prop where
 c0 : w.cell? ⟨C, 0, none⟩ = some (.slice none 0 0)
 c1 : w.cell? ⟨C, 1, none⟩ = some (.map (some M))
 c2 : w.cell? ⟨C, 2, none⟩ = some (.int .i64 n)
 m : w.heap[M]? = some (.map #[] 0)
theorem IsCall.kept {w w' : World} {C M : Nat} {n : Int} {P : Nat → Prop} (h : IsCall w C M n) (k : Kx P w w') (h1 : ¬ P C) (h2 : ¬ P M) : IsCall w' C M n :=
 ⟨k.cell h.c0 h1, k.cell h.c1 h1, k.cell h.c2 h1, (k.block M (Array.getElem?_eq_some_iff.1 h.m).1 h2).trans h.m⟩
theorem IsCall.up {w w' : World} {C M : Nat} {n : Int} (h : IsCall w C M n) (b : Below w.heap.size w w') : IsCall w' C M n := h.kept (P := fun _ => False) (.of_below b) id id
theorem wp_allocz {t : TypeId} {vs : List Value} (hz : ∀ w, (zeroValue t).run Tryz.prog w = .ok (.agg vs.toArray) w) {o : Oper} {a : Act} {w : World} {K : Act → World → Prop} {Q : Exit → Act → World → Prop} (ho : o.op = .alloc t)
  (h : K (a.put o.dst (.pointer (some ⟨w.heap.size, 0, none⟩))) (w.alloc (.cells vs.toArray t))) : Oper.wp Tryz.prog o a w K Q := by
 unfold Oper.wp execOp
 simp only [ho, Instr.alloc, Sem.run_bind, hz, Result.andThen_ok, newVar, newRow, Value.cells]
 exact h
set_option maxRecDepth 1000000 in
set_option maxHeartbeats 4000000 in
theorem ask_x {n0 : Int} {I : World → Prop} (hI : ∀ W W', I W → Below W.heap.size W W' → I W') (g C : Nat) (l : List UInt8) (dp n : Int) (av : Value) (nx : Int) (v : Value) (k : Int) (ty : ByteArray) (f : Sq) (w : World) (hp : IsPr w g l (prT C dp av nx)) (hi : I w) (hc2 : ∀ W, I W → W.cell? ⟨C, 2, none⟩ = some (.int .i64 n)) (hn : n ≠ 131072) (hm : MkC v k ty n0) (hR : ∀ W, I W → Calls Tryz.prog 112 #[.pointer (some ⟨C, 0, none⟩), .int .i64 n0] W fun e w' => e = .returned (.tuple #[.agg hk0.v.toArray, .bool false]) ∧ Below W.heap.size W w') :
  Calls Tryz.prog 86 #[.pointer (some ⟨g, 0, none⟩), v, SV f] w fun e w' => e = .returned (.tuple #[.string ⟨#[]⟩, .bool false]) ∧ Below w.heap.size w w' := by
 have hgl := hp.lt
 have hz : hk0.v.length = 48 := rfl
 have ha0 := fun w => zero_hk w
 have hoz := hk0.one
 have hH := fun W => hook_of v k ty n0 hm W
 generalize hk0.v = ZV at *
 obtain ⟨W1, hW1⟩ : ∃ W1, W1 = w.alloc (.cells #[.bool f.p, .bool f.mi, .bool f.sh, .bool f.sp, .bool f.z, .int .i64 f.wid, .int .i64 f.prec, .int .i32 f.verb] 113) := ⟨_, rfl⟩
 have b1 : Below w.heap.size w W1 := by rw [hW1]; exact (Below.refl _ _).alloc (Nat.le_refl _) _
 have p1 := hp.below b1
 have c1 := hI _ _ hi b1
 have q0 : W1.cell? ⟨g, 4097, none⟩ = some (.pointer (some ⟨C, 0, none⟩)) := p1.tl (i := 0) rfl
 have q2 := hc2 _ c1
 have hnb : (n == 131072) = false := by simpa using hn
 go_enter Tryz.func86, Tryz.ntmps86
 go_upto_region 1 with fail
 rw [← hW1]
 clear hW1 hp hi hm hc2
 go_upto_region 3 with fail
 obtain ⟨Yd, hYd⟩ : ∃ Yd, Yd = W1.drew := ⟨_, rfl⟩
 have bY : Below w.heap.size w Yd := by rw [hYd]; exact b1.drew
 have cY : I Yd := hI _ _ c1 (by rw [hYd]; exact (Below.refl _ _).drew)
 have sY : Yd.cell? ⟨g, 4097, none⟩ = some (.pointer (some ⟨C, 0, none⟩)) := by rw [hYd]; exact q0
 refine wp_region_held_drew (S := fun w' : World => w'.cell? ⟨g, 4097, none⟩ = some (.pointer (some ⟨C, 0, none⟩))) (by kernel_rfl) (by exact q0) ?_
 rw [← hYd]
 have hup : ∀ {w1 w2 : World}, (fun w' : World => w'.cell? ⟨g, 4097, none⟩ = some (.pointer (some ⟨C, 0, none⟩))) w1 → Below w1.heap.size w1 w2 → (fun w' : World => w'.cell? ⟨g, 4097, none⟩ = some (.pointer (some ⟨C, 0, none⟩))) w2 := fun h h' => up_cell h' h
 clear hYd p1 c1 q0 q2 b1
 intro hS
 refine tk 0 (.pointer (some ⟨g, 0, none⟩)) rfl (by kernel_rfl) (fun _ _ _ h => h) (by rfl) (by assumption) ?_ ?_
 ·intro w5 s0
  go_simp
 try simp only [Act.put, lys]
 refine tk 1 (.pointer (some ⟨g, 0, none⟩)) rfl (by kernel_rfl) (fun _ _ _ h => h) (by rfl) (by assumption) ?_ ?_
 ·intro w5 s0
  go_simp
 try simp only [Act.put, lys]
 refine tk 2 (.pointer (some ⟨g, 4097, none⟩)) rfl (by kernel_rfl) (fun _ _ _ h => h) (by rfl) (by assumption) ?_ ?_
 ·intro w5 s0
  go_simp
 try simp only [Act.put, lys]
 refine tk 3 (.pointer (some ⟨C, 0, none⟩)) rfl (by kernel_rfl) (fun _ _ _ h => h) (by rfl) (by assumption) ?_ ?_
 ·intro w5 s0
  go_simp
 try simp only [Act.put, lys]
 refine tk 4 (v) rfl (by kernel_rfl) (fun _ _ _ h => h) (by rfl) (by assumption) ?_ ?_
 ·intro w5 s0
  go_simp
 try simp only [Act.put, lys]
 refine wpAnyH_ready (rs := [5, 10]) (by kernel_rfl) (by simp) ?_
 refine AllReadyH.cons rfl (fun K5 hK5 => ?_) (AllReadyH.cons rfl (fun K10 hK10 => ?_) AllReadyH.nil)
 ·go_simp
  refine (hH Yd).mono ?_
  rintro e W2 ⟨rfl, b2⟩
  have sW2 := hup sY b2
  refine hK5.out _ _ sW2 (fun _ => ?_)
  clear hK5
  try simp only [Act.put, lys]
  refine wpAnyH_ready (rs := [6, 10]) (by kernel_rfl) (by simp) ?_
  refine AllReadyH.cons rfl (fun K6 hK6 => ?_) (AllReadyH.cons rfl (fun K10 hK10 => ?_) AllReadyH.nil)
  ·go_simp
   refine (hR W2 (hI _ _ cY b2)).mono ?_
   rintro e W3 ⟨rfl, b3⟩
   have sW3 := hup sW2 b3
   refine hK6.out _ _ sW3 (fun _ => ?_)
   clear hK6
   try simp only [Act.put, lys]
   refine tk 7 (.tuple #[.agg ZV.toArray, .bool false]) rfl (by kernel_rfl) (fun _ _ _ h => h) (by rfl) (by assumption) ?_ ?_
   ·intro w5 s0
    go_simp
   try simp only [Act.put, lys]
   refine tk 8 (.agg ZV.toArray) rfl (by kernel_rfl) (fun _ _ _ h => h) (by rfl) (by assumption) ?_ ?_
   ·intro w5 s0
    go_simp
   try simp only [Act.put, lys]
   refine tk 9 (.bool false) rfl (by kernel_rfl) (fun _ _ _ h => h) (by rfl) (by assumption) ?_ ?_
   ·intro w5 s0
    go_simp
   try simp only [Act.put, lys]
   refine rd1 10 (by kernel_rfl) rfl fun K10 hK10 => ?_
   obtain ⟨W4, hW4⟩ : ∃ W4, W4 = W3.alloc (.cells ZV.toArray 34) := ⟨_, rfl⟩
   have kA : Blk W4 W3.heap.size ZV := by rw [hW4]; exact Blk.new W3 ZV 34
   have bW4 : Below W3.heap.size W3 W4 := by rw [hW4]; exact (Below.refl _ _).alloc (Nat.le_refl _) _
   have sW4 := hup sW3 bW4
   rw [if_pos (by rfl)]
   refine wp_allocz ha0 rfl ?_
   rw [← hW4]
   refine hK10.out _ _ sW4 (fun _ => ?_)
   clear hK10 hW4
   try simp only [Act.put, lys]
   have q3 : Below w.heap.size w W3 := (bY.trans (b2.mono bY.size)).trans (b3.mono (bY.trans (b2.mono bY.size)).size)
   have q4 : Below w.heap.size w W4 := q3.trans (bW4.mono q3.size)
   have z3 := q3.size
   have th := kA.there
   rw [hz] at th
   obtain ⟨W9, hW9⟩ : ∃ W9, W9 = W4.setCells W3.heap.size 0 ZV := ⟨_, rfl⟩
   have b9 : Below w.heap.size w W9 := by rw [hW9]; exact xbelow_sc q4 (by omega) _ _
   have s9 : W9.cell? ⟨g, 4097, none⟩ = some (.pointer (some ⟨C, 0, none⟩)) := by rw [hW9]; exact (World.cell?_of_block (w := W4) (a := ⟨g, 4097, none⟩) (xsc_heap _ _ (by dsimp only; omega) _ _ _)).trans sW4
   refine rd1 11 (by kernel_rfl) rfl fun K11 hK11 => ?_
   rw [if_pos (by rfl)]
   refine wp_store_mid 34 (.tmp 8) (.tmp 26) rfl W3.heap.size 0 ZV.toArray rfl rfl (by simpa [hz] using th) (by simp [hz, row_Hook.2]) (all_oneCell_toArray hoz) ?_
   rw [show ZV.toArray.toList = ZV from rfl, ← hW9]
   refine hK11.out _ _ s9 (fun _ => ?_)
   clear hK11 hW9
   try simp only [Act.put, lys]
   refine rd1 12 (by kernel_rfl) rfl fun K12 hK12 => ?_
   go_simp
   refine hK12.out _ _ s9 (fun _ => ?_)
   clear hK12
   try simp only [Act.put, lys]
   refine wpAnyH_done (by kernel_rfl) ?_ _
   go_wp2
   go_ret2
   exact ⟨rfl, b9⟩
  ·obtain ⟨W4, hW4⟩ : ∃ W4, W4 = W2.alloc (.cells ZV.toArray 34) := ⟨_, rfl⟩
   have kA : Blk W4 W2.heap.size ZV := by rw [hW4]; exact Blk.new W2 ZV 34
   have bW4 : Below W2.heap.size W2 W4 := by rw [hW4]; exact (Below.refl _ _).alloc (Nat.le_refl _) _
   have sW4 := hup sW2 bW4
   rw [if_pos (by rfl)]
   refine wp_allocz ha0 rfl ?_
   rw [← hW4]
   refine hK10.out _ _ sW4 (fun _ => ?_)
   clear hK10 hW4
   try simp only [Act.put, lys]
   refine rd1 6 (by kernel_rfl) rfl fun K6 hK6 => ?_
   go_simp
   refine (hR W4 (hI _ _ (hI _ _ cY b2) bW4)).mono ?_
   rintro e W3 ⟨rfl, b3⟩
   have sW3 := hup sW4 b3
   refine hK6.out _ _ sW3 (fun _ => ?_)
   clear hK6
   try simp only [Act.put, lys]
   refine tk 7 (.tuple #[.agg ZV.toArray, .bool false]) rfl (by kernel_rfl) (fun _ _ _ h => h) (by rfl) (by assumption) ?_ ?_
   ·intro w5 s0
    go_simp
   try simp only [Act.put, lys]
   refine tk 8 (.agg ZV.toArray) rfl (by kernel_rfl) (fun _ _ _ h => h) (by rfl) (by assumption) ?_ ?_
   ·intro w5 s0
    go_simp
   try simp only [Act.put, lys]
   refine tk 9 (.bool false) rfl (by kernel_rfl) (fun _ _ _ h => h) (by rfl) (by assumption) ?_ ?_
   ·intro w5 s0
    go_simp
   try simp only [Act.put, lys]
   have q2 : Below w.heap.size w W2 := bY.trans (b2.mono bY.size)
   have q4 : Below w.heap.size w W4 := q2.trans (bW4.mono q2.size)
   have q3 : Below w.heap.size w W3 := q4.trans (b3.mono q4.size)
   have z2 := q2.size
   have kB := kA.up b3
   have th := kB.there
   rw [hz] at th
   obtain ⟨W9, hW9⟩ : ∃ W9, W9 = W3.setCells W2.heap.size 0 ZV := ⟨_, rfl⟩
   have b9 : Below w.heap.size w W9 := by rw [hW9]; exact xbelow_sc q3 (by omega) _ _
   have s9 : W9.cell? ⟨g, 4097, none⟩ = some (.pointer (some ⟨C, 0, none⟩)) := by rw [hW9]; exact (World.cell?_of_block (w := W3) (a := ⟨g, 4097, none⟩) (xsc_heap _ _ (by dsimp only; omega) _ _ _)).trans sW3
   refine rd1 11 (by kernel_rfl) rfl fun K11 hK11 => ?_
   rw [if_pos (by rfl)]
   refine wp_store_mid 34 (.tmp 8) (.tmp 26) rfl W2.heap.size 0 ZV.toArray rfl rfl (by simpa [hz] using th) (by simp [hz, row_Hook.2]) (all_oneCell_toArray hoz) ?_
   rw [show ZV.toArray.toList = ZV from rfl, ← hW9]
   refine hK11.out _ _ s9 (fun _ => ?_)
   clear hK11 hW9
   try simp only [Act.put, lys]
   refine rd1 12 (by kernel_rfl) rfl fun K12 hK12 => ?_
   go_simp
   refine hK12.out _ _ s9 (fun _ => ?_)
   clear hK12
   try simp only [Act.put, lys]
   refine wpAnyH_done (by kernel_rfl) ?_ _
   go_wp2
   go_ret2
   exact ⟨rfl, b9⟩
 ·obtain ⟨W4, hW4⟩ : ∃ W4, W4 = Yd.alloc (.cells ZV.toArray 34) := ⟨_, rfl⟩
  have kA : Blk W4 Yd.heap.size ZV := by rw [hW4]; exact Blk.new Yd ZV 34
  have bW4 : Below Yd.heap.size Yd W4 := by rw [hW4]; exact (Below.refl _ _).alloc (Nat.le_refl _) _
  have sW4 := hup sY bW4
  rw [if_pos (by rfl)]
  refine wp_allocz ha0 rfl ?_
  rw [← hW4]
  refine hK10.out _ _ sW4 (fun _ => ?_)
  clear hK10 hW4
  try simp only [Act.put, lys]
  refine rd1 5 (by kernel_rfl) rfl fun K5 hK5 => ?_
  go_simp
  refine (hH W4).mono ?_
  rintro e W2 ⟨rfl, b2⟩
  have sW2 := hup sW4 b2
  refine hK5.out _ _ sW2 (fun _ => ?_)
  clear hK5
  try simp only [Act.put, lys]
  refine rd1 6 (by kernel_rfl) rfl fun K6 hK6 => ?_
  go_simp
  refine (hR W2 (hI _ _ (hI _ _ cY bW4) b2)).mono ?_
  rintro e W3 ⟨rfl, b3⟩
  have sW3 := hup sW2 b3
  refine hK6.out _ _ sW3 (fun _ => ?_)
  clear hK6
  try simp only [Act.put, lys]
  refine tk 7 (.tuple #[.agg ZV.toArray, .bool false]) rfl (by kernel_rfl) (fun _ _ _ h => h) (by rfl) (by assumption) ?_ ?_
  ·intro w5 s0
   go_simp
  try simp only [Act.put, lys]
  refine tk 8 (.agg ZV.toArray) rfl (by kernel_rfl) (fun _ _ _ h => h) (by rfl) (by assumption) ?_ ?_
  ·intro w5 s0
   go_simp
  try simp only [Act.put, lys]
  refine tk 9 (.bool false) rfl (by kernel_rfl) (fun _ _ _ h => h) (by rfl) (by assumption) ?_ ?_
  ·intro w5 s0
   go_simp
  try simp only [Act.put, lys]
  have q4 : Below w.heap.size w W4 := bY.trans (bW4.mono bY.size)
  have q2 : Below w.heap.size w W2 := q4.trans (b2.mono q4.size)
  have q3 : Below w.heap.size w W3 := q2.trans (b3.mono q2.size)
  have zY := bY.size
  have kB := (kA.up b2).up b3
  have th := kB.there
  rw [hz] at th
  obtain ⟨W9, hW9⟩ : ∃ W9, W9 = W3.setCells Yd.heap.size 0 ZV := ⟨_, rfl⟩
  have b9 : Below w.heap.size w W9 := by rw [hW9]; exact xbelow_sc q3 (by omega) _ _
  have s9 : W9.cell? ⟨g, 4097, none⟩ = some (.pointer (some ⟨C, 0, none⟩)) := by rw [hW9]; exact (World.cell?_of_block (w := W3) (a := ⟨g, 4097, none⟩) (xsc_heap _ _ (by dsimp only; omega) _ _ _)).trans sW3
  refine rd1 11 (by kernel_rfl) rfl fun K11 hK11 => ?_
  rw [if_pos (by rfl)]
  refine wp_store_mid 34 (.tmp 8) (.tmp 26) rfl Yd.heap.size 0 ZV.toArray rfl rfl (by simpa [hz] using th) (by simp [hz, row_Hook.2]) (all_oneCell_toArray hoz) ?_
  rw [show ZV.toArray.toList = ZV from rfl, ← hW9]
  refine hK11.out _ _ s9 (fun _ => ?_)
  clear hK11 hW9
  try simp only [Act.put, lys]
  refine rd1 12 (by kernel_rfl) rfl fun K12 hK12 => ?_
  go_simp
  refine hK12.out _ _ s9 (fun _ => ?_)
  clear hK12
  try simp only [Act.put, lys]
  refine wpAnyH_done (by kernel_rfl) ?_ _
  go_wp2
  go_ret2
  exact ⟨rfl, b9⟩
theorem ask_h {n0 : Int} (hn0 : n0 = 0 ∨ n0 = 1) (g C M : Nat) (l : List UInt8) (dp n : Int) (av : Value) (nx : Int) (v : Value) (k : Int) (ty : ByteArray) (f : Sq) (w : World) (hp : IsPr w g l (prT C dp av nx)) (hc : IsCall w C M n) (hn : n ≠ 131072) (hm : MkC v k ty n0) :
  Calls Tryz.prog 86 #[.pointer (some ⟨g, 0, none⟩), v, SV f] w fun e w' => e = .returned (.tuple #[.string ⟨#[]⟩, .bool false]) ∧ Below w.heap.size w w' :=
 ask_x (I := fun W => IsCall W C M n) (fun _ _ h b => h.up b) g C l dp n av nx v k ty f w hp hc (fun _ h => h.c2) hn hm (fun W h => row_h n0 hn0 C M W h.c0 h.c1 h.m)
theorem ask_0 (g C M : Nat) (l : List UInt8) (dp n : Int) (av : Value) (nx : Int) (v : Value) (k : Int) (ty : ByteArray) (f : Sq) (w : World) (hp : IsPr w g l (prT C dp av nx)) (hc : IsCall w C M n) (hn : n ≠ 131072) (hm : MkC v k ty 0) :
  Calls Tryz.prog 86 #[.pointer (some ⟨g, 0, none⟩), v, SV f] w fun e w' => e = .returned (.tuple #[.string ⟨#[]⟩, .bool false]) ∧ Below w.heap.size w w' := ask_h (.inl rfl) g C M l dp n av nx v k ty f w hp hc hn hm
abbrev FA (g : Nat) : Value := .func (.func 86) #[.pointer (some ⟨g, 0, none⟩)] #[]
theorem catch14_idle (p q : Addr) (w : World) :
  CallsD Tryz.prog 166 #[.pointer (some p), .pointer (some q)] .returning w fun e u' w' => e = .returned (.tuple #[]) ∧ u' = .returning ∧ w' = w := by
 refine callsD_of_wpS Tryz.func166 rfl fun c₀ cs hu => ?_
 apply wpS_seq
 apply wpS_region
 simp [wpOpsS, go_sem, recoverD, hu, Tryz.ntmps166, Exit.thenS]
 refine wpS_of_wp ?_
 go_wp2
 exact ⟨rfl, .returning, by rw [← hu], _, results_none rfl _ _ _, rfl, rfl, rfl⟩
set_option maxRecDepth 1000000 in
set_option maxHeartbeats 2000000 in
theorem asked_no (f : Sq) (v : Value) (g : Nat) (w : World) (hA : ∀ W, Below w.heap.size w W → Calls Tryz.prog 86 #[.pointer (some ⟨g, 0, none⟩), v, SV f] W fun e w' => e = .returned (.tuple #[.string ⟨#[]⟩, .bool false]) ∧ Below W.heap.size W w') :
  Calls Tryz.prog 137 #[WV f (FA g), v] w fun e w' => e = .returned (.tuple #[.string ⟨#[]⟩, .bool false]) ∧ Below w.heap.size w w' := by
 have hq : ∀ w, (binOp .eql 151 (FA g) .nilFunc).run Tryz.prog w = .ok (.bool false) w := fun w => by kernel_rfl
 have hmf : ∀ (fn : Fn) (first cap : Array Value) (w : World), (Instr.makeFunc fn first cap).run Tryz.prog w = .ok (.func fn first cap) w := fun _ _ _ _ => rfl
 obtain ⟨W1, hW1⟩ : ∃ W1, W1 = ((w.alloc (.cells #[.bool f.p, .bool f.mi, .bool f.sh, .bool f.sp, .bool f.z, .int .i64 f.wid, .int .i64 f.prec, .int .i32 f.verb, FA g] 200)).alloc (.cells #[.string ⟨#[]⟩] 9)).alloc (.cells #[.bool false] 4) := ⟨_, rfl⟩
 have b1 : Below w.heap.size w W1 := by rw [hW1]; exact (((Below.refl _ _).alloc (Nat.le_refl _) _).alloc (by simp) _).alloc (by simp; omega) _
 have a1 : At9 W1 w.heap.size f (FA g) := by
  rw [hW1]
  refine ⟨?_, ?_, ?_, ?_, ?_, ?_, ?_, ?_, ?_⟩
  all_goals simp [go_sem]
 have s1 : W1.cell? ⟨w.heap.size + 1, 0, none⟩ = some (.string ⟨#[]⟩) := by rw [hW1]; simp [go_sem]
 have s2 : W1.cell? ⟨w.heap.size + 1 + 1, 0, none⟩ = some (.bool false) := by rw [hW1]; simp [go_sem]
 have y1 : W1.frozen? ⟨w.heap.size + 1, 0, none⟩ = false := by
  rw [hW1, frozen?_alloc_cells, frozen?_alloc_cells, frozen?_alloc_cells]
  exact frozen_none _ _ (by show w.heap.size ≤ w.heap.size + 1; omega)
 have y2 : W1.frozen? ⟨w.heap.size + 1 + 1, 0, none⟩ = false := by
  rw [hW1, frozen?_alloc_cells, frozen?_alloc_cells, frozen?_alloc_cells]
  exact frozen_none _ _ (by show w.heap.size ≤ w.heap.size + 1 + 1; omega)
 have hO := hA W1 b1
 have l1 := lt_of_cell s1
 have l2 := lt_of_cell s2
 obtain ⟨q0, q1, q2, q3, q4, q5, q6, q7, q8⟩ := a1
 go_enter_defers Tryz.func137, Tryz.ntmps137
 go_upto_region 1 with fail
 rw [← hW1]
 clear hW1 hA
 go_wp2_with fail
 refine hO.mono ?_
 rintro e W2 ⟨rfl, b2⟩
 have k1 := up_cell b2 s1
 have k2 := up_cell b2 s2
 have x1 : W2.frozen? ⟨w.heap.size + 1, 0, none⟩ = false := (b2.frozen l1).trans y1
 have x2 : W2.frozen? ⟨w.heap.size + 1 + 1, 0, none⟩ = false := (b2.frozen l2).trans y2
 have bw2 : Below w.heap.size w W2 := b1.trans (b2.mono b1.size)
 have k2' : ∀ u, (W2.setCell ⟨w.heap.size + 1, 0, none⟩ u).cell? ⟨w.heap.size + 1 + 1, 0, none⟩ = some (.bool false) := fun u => (World.cell?_of_block (w := W2) (Below.heap_setCell _ _ _ _ (by show w.heap.size + 1 + 1 ≠ w.heap.size + 1; omega))).trans k2
 have x2' : ∀ u, (W2.setCell ⟨w.heap.size + 1, 0, none⟩ u).frozen? ⟨w.heap.size + 1 + 1, 0, none⟩ = false := fun u => by rw [World.frozen?_setCell]; exact x2
 have e1 : ∀ u x, ((W2.setCell ⟨w.heap.size + 1, 0, none⟩ u).setCell ⟨w.heap.size + 1 + 1, 0, none⟩ x).cell? ⟨w.heap.size + 1, 0, none⟩ = some u := fun u x => (World.cell?_of_block (w := W2.setCell ⟨w.heap.size + 1, 0, none⟩ u) (Below.heap_setCell _ _ _ _ (by show w.heap.size + 1 ≠ w.heap.size + 1 + 1; omega))).trans (cs_same8 _ _ _ (by rw [k1]; rfl))
 have e2 : ∀ u x, ((W2.setCell ⟨w.heap.size + 1, 0, none⟩ u).setCell ⟨w.heap.size + 1 + 1, 0, none⟩ x).cell? ⟨w.heap.size + 1 + 1, 0, none⟩ = some x := fun u x => cs_same8 _ _ _ (by rw [k2']; rfl)
 clear hO s1 s2 y1 y2 q0 q1 q2 q3 q4 q5 q6 q7 q8 hq
 go_wp2
 refine leaves_cons (f := 166) (args := #[.pointer (some ⟨w.heap.size + 1, 0, none⟩), .pointer (some ⟨w.heap.size + 1 + 1, 0, none⟩)]) (by simp) (by simp [go_sem]) ?_
 refine (catch14_idle _ _ _).mono ?_
 rintro e u' w'' ⟨rfl, rfl, rfl⟩
 refine ⟨.tuple #[.string ⟨#[]⟩, .bool false], ?_, rfl, (bw2.setCell (by dsimp only; omega) _).setCell (by dsimp only; omega) _⟩
 simp [results, Tryz.results137, go_sem, e1, e2]
end Go.Proofs.YtdlnmnipnkeabaaGreatDoor
namespace Go.Proofs.YtdlnmnipnkeabaaGreatDoor
open Go.RowKit
set_option linter.unusedVariables false
set_option linter.unusedSimpArgs false
abbrev VI (h n : Int) : Value := .iface 160 (.agg #[.int .i64 6, .string ⟨#[]⟩, .int .i64 h, .int .i64 n])
abbrev VX (h : Int) (s : ByteArray) : Value := .iface 170 (.agg #[.int .i64 16, .string ⟨#[]⟩, .int .i64 h, .string s])
abbrev DI (h n : Int) : Value := .agg #[.int .i64 6, .string ⟨#[]⟩, .int .u64 n, .int .u64 0, .string ⟨#[]⟩, .slice none 0 0, .slice none 0 0, .int .i64 h]
abbrev DX (h : Int) (s : ByteArray) : Value := .agg #[.int .i64 16, .string ⟨#[]⟩, .int .u64 0, .int .u64 0, .string s, .slice none 0 0, .slice none 0 0, .int .i64 h]
theorem chk_I (h n : Int) : chk0 (D0 6 n 0 h ⟨#[]⟩ ⟨#[]⟩) = 0 := by
 unfold chk0
 rw [pre0]
 simp [runV, ok1, ok2, ok3, ok4, fitsB, frmB, typedB, allB, sz_nil]
theorem chk_X (h : Int) (s : ByteArray) (hs : s.size ≤ 1024) : chk0 (D0 16 0 0 h ⟨#[]⟩ s) = 0 := by
 unfold chk0
 rw [pre0]
 simp [runV, ok1, ok2, ok3, ok4, fitsB, frmB, typedB, allB, sz_nil]
 omega
theorem md_I (h n : Int) (h0 : 0 ≤ n) (h1 : n < 9223372036854775808) : mdV (D0 6 n 0 h ⟨#[]⟩ ⟨#[]⟩) = VI h n := by
 unfold mdV
 have e : sgN 6 n = n := by
  simp [sgN, swr]
  omega
 simp [e]
theorem md_X (h : Int) (s : ByteArray) : mdV (D0 16 0 0 h ⟨#[]⟩ s) = VX h s := by
 unfold mdV
 simp
theorem build_I (h n : Int) (w : World) (h0 : 0 ≤ n) (h1 : n < 9223372036854775808) (hh : -9223372036854775808 ≤ h ∧ h ≤ 9223372036854775807) : Calls Tryz.prog 60 #[DI h n] w fun e w' => e = .returned (.tuple #[VI h n, .int .i64 0]) ∧ Below w.heap.size w w' := by
 have hb := build0 6 n 0 h ⟨#[]⟩ ⟨#[]⟩ w ⟨by simp, by constructor <;> dsimp only <;> omega, by simp, hh, Nat.zero_le _, Nat.zero_le _⟩ (by decide) (by decide) (chk_I h n)
 rw [md_I h n h0 h1] at hb
 exact hb
theorem build_X (h : Int) (s : ByteArray) (w : World) (hs : s.size ≤ 1024) (hh : -9223372036854775808 ≤ h ∧ h ≤ 9223372036854775807) : Calls Tryz.prog 60 #[DX h s] w fun e w' => e = .returned (.tuple #[VX h s, .int .i64 0]) ∧ Below w.heap.size w w' := by
 have hb := build0 16 0 0 h ⟨#[]⟩ s w ⟨by simp, by simp, by simp, hh, Nat.zero_le _, by dsimp only; unfold maxLen; omega⟩ (by decide) (by decide) (chk_X h s hs)
 rw [md_X] at hb
 exact hb
set_option maxRecDepth 1000000 in
theorem valueOf_of (x0 x1 x2 x3 x4 x5 x6 x7 : Value) (t : TypeId) (x : Value) (w : World) (hB : ∀ W, Calls Tryz.prog 60 #[.agg #[x0, x1, x2, x3, x4, x5, x6, x7]] W fun e w' => e = .returned (.tuple #[.iface t x, .int .i64 0]) ∧ Below W.heap.size W w')
  (ho : x0.oneCell' = true ∧ x1.oneCell' = true ∧ x2.oneCell' = true ∧ x3.oneCell' = true ∧ x4.oneCell' = true ∧ x5.oneCell' = true ∧ x6.oneCell' = true ∧ x7.oneCell' = true) :
  Calls Tryz.prog 53 #[.agg #[x0, x1, x2, x3, x4, x5, x6, x7]] w fun e w' => e = .returned (.iface t x) ∧ Below w.heap.size w w' := by
 obtain ⟨W1, hW1⟩ : ∃ W1, W1 = w.alloc (.cells #[x0, x1, x2, x3, x4, x5, x6, x7] 29) := ⟨_, rfl⟩
 have b1 : Below w.heap.size w W1 := by rw [hW1]; exact (Below.refl _ _).alloc (Nat.le_refl _) _
 have c0 : W1.cell? ⟨w.heap.size, 0, none⟩ = some x0 ∧ W1.cell? ⟨w.heap.size, 1, none⟩ = some x1 ∧ W1.cell? ⟨w.heap.size, 2, none⟩ = some x2 ∧ W1.cell? ⟨w.heap.size, 3, none⟩ = some x3 ∧ W1.cell? ⟨w.heap.size, 4, none⟩ = some x4 ∧ W1.cell? ⟨w.heap.size, 5, none⟩ = some x5 ∧ W1.cell? ⟨w.heap.size, 6, none⟩ = some x6 ∧ W1.cell? ⟨w.heap.size, 7, none⟩ = some x7 := by
  rw [hW1]
  refine ⟨?_, ?_, ?_, ?_, ?_, ?_, ?_, ?_⟩
  all_goals simp [go_sem]
 obtain ⟨c0, c1, c2, c3, c4, c5, c6, c7⟩ := c0
 have hB1 := hB W1
 clear hB
 go_enter Tryz.func53, Tryz.ntmps53
 go_upto_region 1 with fail
 rw [← hW1]
 clear hW1
 go_wp2_with (go_at_call 60; refine hB1.mono ?_; rintro e W2 ⟨rfl, b2⟩)
 go_ret
 exact ⟨rfl, b1.trans (b2.mono b1.size)⟩
theorem valueOf_I (h n : Int) (w : World) (h0 : 0 ≤ n) (h1 : n < 9223372036854775808) (hh : -9223372036854775808 ≤ h ∧ h ≤ 9223372036854775807) : Calls Tryz.prog 53 #[DI h n] w fun e w' => e = .returned (VI h n) ∧ Below w.heap.size w w' :=
 valueOf_of _ _ _ _ _ _ _ _ _ _ w (fun W => build_I h n W h0 h1 hh) ⟨rfl, rfl, rfl, rfl, rfl, rfl, rfl, rfl⟩
theorem valueOf_X (h : Int) (s : ByteArray) (w : World) (hs : s.size ≤ 1024) (hh : -9223372036854775808 ≤ h ∧ h ≤ 9223372036854775807) : Calls Tryz.prog 53 #[DX h s] w fun e w' => e = .returned (VX h s) ∧ Below w.heap.size w w' :=
 valueOf_of _ _ _ _ _ _ _ _ _ _ w (fun W => build_X h s W hs hh) ⟨rfl, rfl, rfl, rfl, rfl, rfl, rfl, rfl⟩
theorem mk_X (h : Int) (s : ByteArray) : MkC (VX h s) 16 ⟨#[]⟩ h := fun W => markof_text 16 h _ s W
theorem raw_I (h n : Int) (w : World) (h0 : 0 ≤ n) (h1 : n < 9223372036854775808) : Calls Tryz.prog 145 #[VI h n] w fun e w' => e = .returned (DI h n) ∧ Below w.heap.size w w' := by
 refine raw_flat (VI h n) 6 h n 0 ⟨#[]⟩ ⟨#[]⟩ w fun W => ?_
 have hr := rawof_signed 6 h ⟨#[]⟩ n W
 rw [Int.emod_eq_of_lt h0 (by omega)] at hr
 exact hr
theorem raw_X (h : Int) (s : ByteArray) (w : World) : Calls Tryz.prog 145 #[VX h s] w fun e w' => e = .returned (DX h s) ∧ Below w.heap.size w w' :=
 raw_flat (VX h s) 16 h 0 0 ⟨#[]⟩ s w fun W => rawof_text 16 h ⟨#[]⟩ s W
set_option maxRecDepth 1000000 in
theorem shape_X (h : Int) (s : ByteArray) (w : World) : Calls Tryz.prog 135 #[VX h s] w fun e w' => e = .returned (.iface 262 (.string s)) ∧ Below w.heap.size w w' := by
 have hR := raw_X h s w
 go_enter Tryz.func135, Tryz.ntmps135
 go_wp2_with (go_at_call 145; refine hR.mono ?_; rintro e W2 ⟨rfl, b2⟩)
 go_ret
 exact ⟨rfl, b2.alloc b2.size _⟩
structure Env (w : World) (g C M : Nat) (l : List UInt8) (n dp : Int) (av : Value) (nx : Int) : Prop where
 p : IsPr w g l (prT C dp av nx)
 c : IsCall w C M n
 e : Esc w
 k : KN w
 n : n ≠ 131072
theorem Env.up {w w' : World} {g C M : Nat} {l : List UInt8} {n dp : Int} {av : Value} {nx : Int} (h : Env w g C M l n dp av nx) (b : Below w.heap.size w w') : Env w' g C M l n dp av nx :=
 ⟨h.p.below b, h.c.up b, h.e.below b, h.k.up b, h.n⟩
set_option maxRecDepth 1000000 in
theorem show_of (f : Sq) (hv : ¬ f.verb = 84) (v ask : Value) (T : ByteArray) (w : World) (ha : ∃ a b c, ask = .func a b c)
  (hW : ∀ W, Below w.heap.size w W → Calls Tryz.prog 111 #[WV f ask, v, .int .i64 0] W fun e w' => e = .returned (.string T) ∧ Below W.heap.size W w') :
  Calls Tryz.prog 85 #[v, SV f, ask] w fun e w' => e = .returned (.string T) ∧ Below w.heap.size w w' := by
 obtain ⟨a, b, c, rfl⟩ := ha
 obtain ⟨W1, hW1⟩ : ∃ W1, W1 = w.alloc (.cells #[.bool f.p, .bool f.mi, .bool f.sh, .bool f.sp, .bool f.z, .int .i64 f.wid, .int .i64 f.prec, .int .i32 f.verb] 113) := ⟨_, rfl⟩
 have b1 : Below w.heap.size w W1 := by rw [hW1]; exact (Below.refl _ _).alloc (Nat.le_refl _) _
 have q0 : W1.cell? ⟨w.heap.size, 0, none⟩ = some (.bool f.p) ∧ W1.cell? ⟨w.heap.size, 1, none⟩ = some (.bool f.mi) ∧ W1.cell? ⟨w.heap.size, 2, none⟩ = some (.bool f.sh) ∧ W1.cell? ⟨w.heap.size, 3, none⟩ = some (.bool f.sp) ∧ W1.cell? ⟨w.heap.size, 4, none⟩ = some (.bool f.z) ∧ W1.cell? ⟨w.heap.size, 5, none⟩ = some (.int .i64 f.wid) ∧ W1.cell? ⟨w.heap.size, 6, none⟩ = some (.int .i64 f.prec) ∧ W1.cell? ⟨w.heap.size, 7, none⟩ = some (.int .i32 f.verb) := by
  rw [hW1]
  refine ⟨?_, ?_, ?_, ?_, ?_, ?_, ?_, ?_⟩
  all_goals simp [go_sem]
 obtain ⟨q0, q1, q2, q3, q4, q5, q6, q7⟩ := q0
 have hW1c := hW W1 b1
 go_enter Tryz.func85, Tryz.ntmps85
 go_upto_region 1 with fail
 rw [← hW1]
 clear hW1 hW
 go_wp2_with (go_at_call 111; refine hW1c.mono ?_; rintro e W2 ⟨rfl, r2⟩)
 go_ret
 exact ⟨rfl, b1.trans (r2.mono b1.size)⟩
set_option maxRecDepth 1000000 in
theorem shown_of (f : Sq) (hv : ¬ f.verb = 84) (v : Value) (g : Nat) (T : ByteArray) (w : World)
  (hW : ∀ W, Below w.heap.size w W → Calls Tryz.prog 111 #[WV f (FA g), v, .int .i64 0] W fun e w' => e = .returned (.string T) ∧ Below W.heap.size W w') :
  Calls Tryz.prog 69 #[.pointer (some ⟨g, 0, none⟩), v, SV f] w fun e w' => e = .returned (.string T) ∧ Below w.heap.size w w' := by
 have hmf : ∀ (fn : Fn) (first cap : Array Value) (w : World), (Instr.makeFunc fn first cap).run Tryz.prog w = .ok (.func fn first cap) w := fun _ _ _ _ => rfl
 obtain ⟨W1, hW1⟩ : ∃ W1, W1 = w.alloc (.cells #[.bool f.p, .bool f.mi, .bool f.sh, .bool f.sp, .bool f.z, .int .i64 f.wid, .int .i64 f.prec, .int .i32 f.verb] 113) := ⟨_, rfl⟩
 have b1 : Below w.heap.size w W1 := by rw [hW1]; exact (Below.refl _ _).alloc (Nat.le_refl _) _
 have q0 : W1.cell? ⟨w.heap.size, 0, none⟩ = some (.bool f.p) ∧ W1.cell? ⟨w.heap.size, 1, none⟩ = some (.bool f.mi) ∧ W1.cell? ⟨w.heap.size, 2, none⟩ = some (.bool f.sh) ∧ W1.cell? ⟨w.heap.size, 3, none⟩ = some (.bool f.sp) ∧ W1.cell? ⟨w.heap.size, 4, none⟩ = some (.bool f.z) ∧ W1.cell? ⟨w.heap.size, 5, none⟩ = some (.int .i64 f.wid) ∧ W1.cell? ⟨w.heap.size, 6, none⟩ = some (.int .i64 f.prec) ∧ W1.cell? ⟨w.heap.size, 7, none⟩ = some (.int .i32 f.verb) := by
  rw [hW1]
  refine ⟨?_, ?_, ?_, ?_, ?_, ?_, ?_, ?_⟩
  all_goals simp [go_sem]
 obtain ⟨q0, q1, q2, q3, q4, q5, q6, q7⟩ := q0
 have hS := show_of f hv v (FA g) T W1 ⟨_, _, _, rfl⟩ fun W hW' => hW W (b1.trans (hW'.mono b1.size))
 go_enter Tryz.func69, Tryz.ntmps69
 go_upto_region 1 with fail
 rw [← hW1]
 clear hW1 hW
 go_wp2_with (go_at_call 85; refine hS.mono ?_; rintro e W2 ⟨rfl, r2⟩)
 go_ret
 exact ⟨rfl, b1.trans (r2.mono b1.size)⟩
end Go.Proofs.YtdlnmnipnkeabaaGreatDoor
