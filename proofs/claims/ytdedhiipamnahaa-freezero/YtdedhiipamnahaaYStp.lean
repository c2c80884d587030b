/- Package free at [2]int: all its methods. -/
import Derived.Test.YtdedhiipamnahaaYLive
import Derived.KernelRfl
namespace Go.Proofs.Ytdedhiipamnahaa
open Go.RowKit Go.Conc
set_option linter.unusedVariables false
set_option linter.unusedSimpArgs false

theorem neCp (c : Nat) (w : World) : (binOp BinOp.neq 61 (.chan (some c)) (.chan none)).run Try.prog w = .ok (.bool true) w := by kernel_rfl
theorem eqCp (w : World) : (binOp BinOp.neq 61 (.chan none) (.chan none)).run Try.prog w = .ok (.bool false) w := by kernel_rfl
theorem neFp (f : Fn) (a c : Array Value) (w : World) : (binOp BinOp.neq 52 (.func f a c) .nilFunc).run Try.prog w = .ok (.bool true) w := by kernel_rfl
theorem eqFp (w : World) : (binOp BinOp.neq 52 .nilFunc .nilFunc).run Try.prog w = .ok (.bool false) w := by kernel_rfl
theorem isMadep_any {w : World} {B c cap : Nat} {l : List Value} {mk : Value} {m : Int} (h : Sto w B c cap l mk m) :
    Calls Try.prog 38 #[.pointer (some ⟨B, 0, none⟩)] w fun e w' => e = .returned (.bool true) ∧ w' = w := by
  have c0 := h.bx.c 0 _ rfl
  have hn := fun w => neCp c w
  go_enter Try.func38, Try.ntmps38
  go_wp2
  go_ret
  exact ⟨rfl, rfl⟩
theorem isMadep_nil (w : World) : Calls Try.prog 38 #[.pointer none] w fun e w' => e = .returned (.bool false) ∧ w' = w := by
  go_enter Try.func38, Try.ntmps38
  go_wp2
  go_ret
  exact ⟨rfl, rfl⟩
theorem isMadep_no {w : World} {B : Nat} {mk x : Value} (h : Bq w B [.chan none, mk, x]) : Calls Try.prog 38 #[.pointer (some ⟨B, 0, none⟩)] w fun e w' => e = .returned (.bool false) ∧ w' = w := by
  have c0 := h.c 0 _ rfl
  have hn := fun w => eqCp w
  go_enter Try.func38, Try.ntmps38
  go_wp2
  go_ret
  exact ⟨rfl, rfl⟩
theorem madep_any {w : World} {B c cap : Nat} {l : List Value} {mk : Value} {m : Int} (h : Sto w B c cap l mk m) :
    Calls Try.prog 29 #[.pointer (some ⟨B, 0, none⟩)] w fun e w' => e = .returned (.int .i64 m) ∧ w' = w := by
  have c2 := h.bx.c 2 _ rfl
  have h1 := isMadep_any h
  go_enter Try.func29, Try.ntmps29
  go_wp2_with (go_at_call 38; refine h1.mono ?_; rintro e w9 ⟨rfl, rfl⟩)
  go_ret
  exact ⟨rfl, rfl⟩

theorem bytesCp : ∃ i, Try.prog.info? 49 = some i ∧ i.bytes = 16 := by
  have h : (Try.prog.info? 49).map (·.bytes) = some 16 := by kernel_rfl
  obtain ⟨i, hi, hb⟩ := Option.map_eq_some_iff.1 h
  exact ⟨i, hi, hb⟩
theorem mkCp (n : Nat) (hn : n ≤ 64) (w : World) : (Instr.makeChan 61 (.int .i64 n)).run Try.prog w = .ok (.chan (some w.heap.size)) (w.alloc (.chan n #[] false 0 0 false)) := by
  obtain ⟨i, hi, hb⟩ := bytesCp
  simpa using run_makeChan (P := Try.prog) (w := w) Try.underlying61 hi .i64 n (by omega) (by rw [hb]; omega)
set_option maxRecDepth 100000 in
theorem roomp_any (n : Int) (w : World) : Calls Try.prog 37 #[.int .i64 n] w fun e w' => e = .returned (.chan (some w.heap.size)) ∧ w' = w.alloc (.chan (capN n) #[] false 0 0 false) := by
  have hm := fun w => mkCp (capN n) (capN_le n) w
  have hc := capN_eq n
  rcases Int.lt_or_le n 0 with h1 | h1
  · have e : capN n = 0 := by omega
    have hk : ∀ w : World, (Instr.makeChan 61 (.int .i64 0)).run Try.prog w = .ok (.chan (some w.heap.size)) (w.alloc (.chan 0 #[] false 0 0 false)) := fun w => mkCp 0 (by omega) w
    rw [e]
    clear hc hm e
    go_enter Try.func37, Try.ntmps37
    go_wp2
    go_ret
    exact ⟨rfl, rfl⟩
  · rcases Int.lt_or_le 64 n with h2 | h2
    · have e : capN n = 64 := by omega
      have hk : ∀ w : World, (Instr.makeChan 61 (.int .i64 64)).run Try.prog w = .ok (.chan (some w.heap.size)) (w.alloc (.chan 64 #[] false 0 0 false)) := fun w => mkCp 64 (by omega) w
      rw [e]
      clear hc hm e
      go_enter Try.func37, Try.ntmps37
      go_wp2
      go_ret
      exact ⟨rfl, rfl⟩
    · obtain ⟨k, rfl⟩ := Int.eq_ofNat_of_zero_le h1
      have e : capN k = k := by omega
      rw [e] at hm ⊢
      clear hc
      go_enter Try.func37, Try.ntmps37
      go_wp2
      go_ret
      exact ⟨rfl, rfl⟩

set_option maxRecDepth 100000 in
theorem newp_any (n : Int) (mk : Value) (hmk : mk = .nilFunc ∨ ∃ f a c, mk = .func f a c) (w : World) : Calls Try.prog 26 #[.int .i64 n, mk] w fun e w' =>
    ∃ B c, e = .returned (.pointer (some ⟨B, 0, none⟩)) ∧ w.heap.size ≤ B ∧ w.heap.size ≤ c ∧ Sto w' B c (capN n) [] mk 0 ∧ Ko [] w w' := by
  have h1 := roomp_any n w
  obtain ⟨W1, hW1⟩ : ∃ W1, W1 = w.alloc (.chan (capN n) #[] false 0 0 false) := ⟨_, rfl⟩
  have hfin : ∀ t, Sto (W1.alloc (.cells #[.chan (some w.heap.size), mk, .int .i64 0] t)) W1.heap.size w.heap.size (capN n) [] mk 0 ∧ Ko [] w (W1.alloc (.cells #[.chan (some w.heap.size), mk, .int .i64 0] t)) := by
    intro t
    refine ⟨⟨Bq.new _ [_, _, _] _, 0, 0, ?_⟩, ?_⟩
    · rw [Below.heap_alloc _ _ _ (by rw [hW1]; simp), hW1]
      exact heap_alloc_new w _
    · rw [hW1]
      exact ((Ko.refl _ _).alloc _).alloc _
  have hs : w.heap.size ≤ W1.heap.size := by rw [hW1]; simp
  rw [← hW1] at h1
  clear hW1
  generalize capN n = K at *
  rcases hmk with rfl | ⟨f, a, c, rfl⟩
  all_goals
    go_enter Try.func26, Try.ntmps26
    go_wp2_with (go_at_call 37; refine h1.mono ?_; rintro e w9 ⟨rfl, rfl⟩)
    go_ret
    exact ⟨_, _, rfl, hs, Nat.le_refl _, hfin _⟩
/-- The deferred closure of fresh. -/
theorem fresh1p_idle (p : Nat) {w : World} {B : Nat} {m : Int} (c : w.cell? ⟨p, 0, none⟩ = some (.pointer (some ⟨B, 0, none⟩))) (c2 : w.cell? ⟨B, 2, none⟩ = some (.int .i64 m)) (z : w.frozen? ⟨B, 2, none⟩ = false) (h0 : 0 ≤ m) (h1 : m < 9223372036854775807) :
    CallsD Try.prog 42 #[.pointer (some ⟨p, 0, none⟩)] .returning w fun e u' w' => e = .returned (.tuple #[]) ∧ u' = .returning ∧ w' = w.setCell ⟨B, 2, none⟩ (.int .i64 (m + 1)) := by
  refine callsD_of_wpS Try.func42 rfl fun c₀ cs hu => ?_
  refine wpS_seq ?_
  apply wpS_region
  simp [wpOpsS, go_sem, recoverD, hu, Try.ntmps42, Exit.thenS, c, c2, z]
  rw [show (#[Value.pointer (some ⟨p, 0, none⟩)] ++ (Array.replicate 8 undef).setIfInBounds 0 Value.nilIface) = #[.pointer (some ⟨p, 0, none⟩), .nilIface, undef, undef, undef, undef, undef, undef, undef] from rfl]
  refine wpS_of_wp ?_
  go_wp2
  exact ⟨rfl, .returning, by rw [← hu], _, results_none rfl _ _ _, rfl, rfl, rfl⟩
theorem cs_same13 (w : World) (a : Addr) (v : Value) (h : (w.cell? a).isSome = true) : (w.setCell a v).cell? a = some v := by
  obtain ⟨u, hu⟩ := Option.isSome_iff_exists.1 h
  exact World.cell?_setCell_same _ _ _ hu
set_option maxRecDepth 100000 in
theorem putp_room {w : World} {B c cap : Nat} {l : List Value} {mk : Value} {m : Int} (h : Sto w B c cap l mk m) (x y : Int) (hr : l.length < cap) :
    Calls Try.prog 28 #[.pointer (some ⟨B, 0, none⟩), .agg #[.int .i64 x, .int .i64 y]] w fun e w' => e = .returned (.bool true) ∧ Sto w' B c cap (l ++ [.agg #[.int .i64 x, .int .i64 y]]) mk m ∧ Ko [c] w w' := by
  obtain ⟨W1, hW1⟩ : ∃ W1, W1 = w.alloc (.cells #[.int .i64 x, .int .i64 y] 49) := ⟨_, rfl⟩
  have k1 : Ko [] w W1 := by rw [hW1]; exact (Ko.refl _ _).alloc _
  have x1 : Bq W1 w.heap.size [.int .i64 x, .int .i64 y] := by rw [hW1]; exact Bq.new _ [_, _] _
  have d0 := x1.c 0 _ rfl
  have d1 := x1.c 1 _ rfl
  have h9 := h.keep k1 (by simp) (by simp)
  have c0 := h9.bx.c 0 _ rfl
  have h1 := isMadep_any h9
  obtain ⟨s, r, hc⟩ := h9.ch
  refine calls_of_CN Try.func28 rfl ?_
  simp only [Try.ntmps28, List.size_toArray, List.length_cons, List.length_nil, Nat.reduceAdd, Nat.reduceSub, Array.replicate_succ, Array.replicate_zero, List.push_toArray, List.append_toArray, List.nil_append, List.cons_append]
  refine CN.seq (CN.of_wp ?_)
  go_wp2
  rw [← hW1]
  clear hW1
  refine CN.seq (CN.of_wp ?_)
  go_wp2_with (go_at_call 38; refine h1.mono ?_; rintro e w9 ⟨rfl, rfl⟩)
  refine CN.seq (CN.of_wp ?_)
  go_wp2
  refine CN.seq ?_
  refine CN.send_room (v := .agg #[.int .i64 x, .int .i64 y]) (z := .agg #[.int .i64 0, .int .i64 0]) rfl (by simp [go_sem, execOp, scase, Act.eval]) hc (by simpa using hr) ?_
  go_wp2
  refine CN.of_wp ?_
  go_wp2
  go_ret
  exact ⟨rfl, h9.turn _ _, (k1.mono (by simp)).setChan (.inr (by simp)) _ _ _ _ _ _⟩
set_option maxRecDepth 100000 in
theorem putp_full {w : World} {B c cap : Nat} {l : List Value} {mk : Value} {m : Int} (h : Sto w B c cap l mk m) (x y : Int) (hr : cap ≤ l.length) :
    Calls Try.prog 28 #[.pointer (some ⟨B, 0, none⟩), .agg #[.int .i64 x, .int .i64 y]] w fun e w' => e = .returned (.bool false) ∧ Sto w' B c cap l mk m ∧ Ko [] w w' := by
  obtain ⟨W1, hW1⟩ : ∃ W1, W1 = w.alloc (.cells #[.int .i64 x, .int .i64 y] 49) := ⟨_, rfl⟩
  have k1 : Ko [] w W1 := by rw [hW1]; exact (Ko.refl _ _).alloc _
  have x1 : Bq W1 w.heap.size [.int .i64 x, .int .i64 y] := by rw [hW1]; exact Bq.new _ [_, _] _
  have d0 := x1.c 0 _ rfl
  have d1 := x1.c 1 _ rfl
  have h9 := h.keep k1 (by simp) (by simp)
  have c0 := h9.bx.c 0 _ rfl
  have h1 := isMadep_any h9
  obtain ⟨s, r, hc⟩ := h9.ch
  refine calls_of_CN Try.func28 rfl ?_
  simp only [Try.ntmps28, List.size_toArray, List.length_cons, List.length_nil, Nat.reduceAdd, Nat.reduceSub, Array.replicate_succ, Array.replicate_zero, List.push_toArray, List.append_toArray, List.nil_append, List.cons_append]
  refine CN.seq (CN.of_wp ?_)
  go_wp2
  rw [← hW1]
  clear hW1
  refine CN.seq (CN.of_wp ?_)
  go_wp2_with (go_at_call 38; refine h1.mono ?_; rintro e w9 ⟨rfl, rfl⟩)
  refine CN.seq (CN.of_wp ?_)
  go_wp2
  refine CN.seq ?_
  refine CN.send_full (v := .agg #[.int .i64 x, .int .i64 y]) (z := .agg #[.int .i64 0, .int .i64 0]) rfl (by simp [go_sem, execOp, scase, Act.eval]) hc (by simpa using hr) ?_
  go_wp2
  refine CN.of_wp ?_
  go_wp2
  go_ret
  exact ⟨rfl, h9, k1⟩
set_option maxRecDepth 100000 in
theorem getp_some {w : World} {B c cap : Nat} {l : List Value} {mk : Value} {m : Int} (x y : Int) (h : Sto w B c cap (.agg #[.int .i64 x, .int .i64 y] :: l) mk m) :
    Calls Try.prog 27 #[.pointer (some ⟨B, 0, none⟩)] w fun e w' => e = .returned (.agg #[.int .i64 x, .int .i64 y]) ∧ Sto w' B c cap l mk m ∧ Ko [c] w w' := by
  obtain ⟨W1, hW1⟩ : ∃ W1, W1 = w.alloc (.cells #[.int .i64 0, .int .i64 0] 49) := ⟨_, rfl⟩
  have k1 : Ko [] w W1 := by rw [hW1]; exact (Ko.refl _ _).alloc _
  have x1 : Bq W1 w.heap.size [.int .i64 0, .int .i64 0] := by rw [hW1]; exact Bq.new _ [_, _] _
  have h9 := h.keep k1 (by simp) (by simp)
  have c0 := h9.bx.c 0 _ rfl
  have h1 := isMadep_any h9
  have hcw := h.cb
  obtain ⟨s, r, hc⟩ := h9.ch
  refine calls_of_CN Try.func27 rfl ?_
  simp only [Try.ntmps27, List.size_toArray, List.length_cons, List.length_nil, Nat.reduceAdd, Nat.reduceSub, Array.replicate_succ, Array.replicate_zero, List.push_toArray, List.append_toArray, List.nil_append, List.cons_append]
  refine CN.seq (CN.of_wp ?_)
  go_wp2
  rw [← hW1]
  clear hW1
  refine CN.seq (CN.of_wp ?_)
  go_wp2_with (go_at_call 38; refine h1.mono ?_; rintro e w9 ⟨rfl, rfl⟩)
  refine CN.seq (CN.of_wp ?_)
  go_wp2
  refine CN.seq ?_
  refine CN.recv_some (z := .agg #[.int .i64 0, .int .i64 0]) rfl (by simp [go_sem, execOp, rcase, Act.eval]) hc (by simp) ?_
  rw [getD_cons, ext_cons]
  have k2 : Ko [c] w9 (w9.setChan c cap l.toArray false s (r + 1) false) := (Ko.refl _ _).setChan (.inr (by simp)) _ _ _ _ _ _
  have s2 : Sto (w9.setChan c cap l.toArray false s (r + 1) false) B c cap l mk m := h9.turn _ _
  generalize w9.setChan c cap l.toArray false s (r + 1) false = W2 at *
  have x2 := x1.keep k2 (by simp; omega)
  go_wp2
  refine CN.of_wp ?_
  have a0 := x2.c 0 _ rfl
  have a1 := x2.c 1 _ rfl
  have b0 := x2.z 0
  have b1 := x2.z 1
  have hlt := x2.b
  go_wp2
  have hBw := h.bx.b
  have x3 := ((x2.set 0 (by simp) (.int .i64 x)).set 1 (by simp) (.int .i64 y))
  have k3 : Ko [w.heap.size] W2 ((W2.setCell ⟨w.heap.size, 0, none⟩ (.int .i64 x)).setCell ⟨w.heap.size, 1, none⟩ (.int .i64 y)) := ((Ko.refl _ _).setCell (.inr (by simp)) _).setCell (.inr (by simp)) _
  have s3 := (s2.keep k3 (by simp; omega) (by simp; omega))
  have k4 : Ko [c] w ((W2.setCell ⟨w.heap.size, 0, none⟩ (.int .i64 x)).setCell ⟨w.heap.size, 1, none⟩ (.int .i64 y)) := (((k1.mono (by simp)).trans k2).setCell (.inl (Nat.le_refl _)) _).setCell (.inl (Nat.le_refl _)) _
  generalize ((W2.setCell ⟨w.heap.size, 0, none⟩ (.int .i64 x)).setCell ⟨w.heap.size, 1, none⟩ (.int .i64 y)) = W3 at *
  have k5 : Ko [] W3 (W3.alloc (.cells #[.int .i64 x, .int .i64 y] 49)) := (Ko.refl _ _).alloc _
  have x5 := x3.keep k5 (by simp)
  have s5 := s3.keep k5 (by simp) (by simp)
  have k6 := k4.alloc (.cells #[.int .i64 x, .int .i64 y] 49)
  generalize W3.alloc (.cells #[.int .i64 x, .int .i64 y] 49) = W5 at *
  have r0 := x5.c 0 _ rfl
  have r1 := x5.c 1 _ rfl
  refine bodyPost_ret (by simp [results, Try.results27, go_sem, r0, r1]; rfl) rfl ?_
  exact ⟨rfl, s5, k6⟩
set_option maxRecDepth 100000 in
theorem freshp_nil {w : World} {B c cap : Nat} {l : List Value} {m : Int} (h : Sto w B c cap l .nilFunc m) (h0 : 0 ≤ m) (h1 : m < 9223372036854775807) :
    Calls Try.prog 39 #[.pointer (some ⟨B, 0, none⟩)] w fun e w' => e = .returned (.agg #[.int .i64 0, .int .i64 0]) ∧ Sto w' B c cap l .nilFunc (m + 1) ∧ Ko [B] w w' := by
  obtain ⟨W1, hW1⟩ : ∃ W1, W1 = (w.alloc (.cells #[.pointer (some ⟨B, 0, none⟩)] 50)).alloc (.cells #[.int .i64 0, .int .i64 0] 49) := ⟨_, rfl⟩
  have ka : Ko [] (w.alloc (.cells #[.pointer (some ⟨B, 0, none⟩)] 50)) W1 := by rw [hW1]; exact (Ko.refl _ _).alloc _
  have hb : Bq W1 w.heap.size [.pointer (some ⟨B, 0, none⟩)] := (Bq.new w [_] _).keep ka (by simp)
  have hx : Bq W1 (w.heap.size + 1) [.int .i64 0, .int .i64 0] := by
    rw [hW1]
    have := Bq.new (w.alloc (.cells #[.pointer (some ⟨B, 0, none⟩)] 50)) [.int .i64 0, .int .i64 0] 49
    simpa using this
  have k0 : Ko [] w W1 := by rw [hW1]; exact ((Ko.refl _ _).alloc _).alloc _
  have s1 := h.keep k0 (by simp) (by simp)
  have a0 := hb.c 0 _ rfl
  have a1 := s1.bx.c 1 _ rfl
  have a2 := s1.bx.c 2 _ rfl
  have a3 := s1.bx.z 2
  have e0 := hx.c 0 _ rfl
  have e1 := hx.c 1 _ rfl
  have e2 := hx.z 0
  have e3 := hx.z 1
  have hn := fun w => eqFp w
  have hBw := h.bx.b
  have hmf : ∀ (fn : Fn) (first cap : Array Value) (w : World), (Instr.makeFunc fn first cap).run Try.prog w = .ok (.func fn first cap) w := fun _ _ _ _ => rfl
  go_enter_defers Try.func39, Try.ntmps39
  go_upto_region 1 with fail
  rw [← hW1]
  clear hW1
  go_wp2
  refine leaves_cons (f := 42) (args := #[.pointer (some ⟨w.heap.size, 0, none⟩)]) (by simp) (by simp [go_sem]) ?_
  have hx3 := (hx.set 0 (by simp) (.int .i64 0)).set 1 (by simp) (.int .i64 0)
  have k3 : Ko [w.heap.size + 1] W1 ((W1.setCell ⟨w.heap.size + 1, 0, none⟩ (.int .i64 0)).setCell ⟨w.heap.size + 1, 1, none⟩ (.int .i64 0)) := ((Ko.refl _ _).setCell (.inr (by simp)) _).setCell (.inr (by simp)) _
  have k4 : Ko [B] w ((W1.setCell ⟨w.heap.size + 1, 0, none⟩ (.int .i64 0)).setCell ⟨w.heap.size + 1, 1, none⟩ (.int .i64 0)) := (((k0.mono (by simp))).setCell (.inl (by dsimp only; omega)) _).setCell (.inl (by dsimp only; omega)) _
  have hcw := h.cb
  have s3 := s1.keep k3 (by simp; omega) (by simp; omega)
  have hb3 := hb.keep k3 (by simp)
  generalize ((W1.setCell ⟨w.heap.size + 1, 0, none⟩ (.int .i64 0)).setCell ⟨w.heap.size + 1, 1, none⟩ (.int .i64 0)) = W3 at *
  refine (fresh1p_idle _ (hb3.c 0 _ rfl) (s3.bx.c 2 _ rfl) (s3.bx.z 2) h0 h1).mono ?_
  rintro e u' w'' ⟨rfl, rfl, rfl⟩
  have hx5 : Bq (W3.setCell ⟨B, 2, none⟩ (.int .i64 (m + 1))) (w.heap.size + 1) [.int .i64 0, .int .i64 0] := hx3.same (Below.heap_setCell _ _ _ _ (by dsimp only; omega)) (by simp [World.setCell])
  have r0 := hx5.c 0 _ rfl
  have r1 := hx5.c 1 _ rfl
  refine ⟨.agg #[.int .i64 0, .int .i64 0], ?_, rfl, s3.made _, k4.setCell (.inr (by simp)) _⟩
  simp [results, Try.results39, go_sem, r0, r1]
set_option maxRecDepth 100000 in
theorem getp_nil {w : World} {B c cap : Nat} {m : Int} (h : Sto w B c cap [] .nilFunc m) (h0 : 0 ≤ m) (h2 : m < 9223372036854775807) :
    Calls Try.prog 27 #[.pointer (some ⟨B, 0, none⟩)] w fun e w' => e = .returned (.agg #[.int .i64 0, .int .i64 0]) ∧ Sto w' B c cap [] .nilFunc (m + 1) ∧ Ko [B] w w' := by
  obtain ⟨W1, hW1⟩ : ∃ W1, W1 = w.alloc (.cells #[.int .i64 0, .int .i64 0] 49) := ⟨_, rfl⟩
  have k1 : Ko [] w W1 := by rw [hW1]; exact (Ko.refl _ _).alloc _
  have x1 : Bq W1 w.heap.size [.int .i64 0, .int .i64 0] := by rw [hW1]; exact Bq.new _ [_, _] _
  have h9 := h.keep k1 (by simp) (by simp)
  have c0 := h9.bx.c 0 _ rfl
  have h1 := isMadep_any h9
  have hcw := h.cb
  have hBw := h.bx.b
  have hF := freshp_nil h9 h0 h2
  obtain ⟨s, r, hc⟩ := h9.ch
  refine calls_of_CN Try.func27 rfl ?_
  simp only [Try.ntmps27, List.size_toArray, List.length_cons, List.length_nil, Nat.reduceAdd, Nat.reduceSub, Array.replicate_succ, Array.replicate_zero, List.push_toArray, List.append_toArray, List.nil_append, List.cons_append]
  refine CN.seq (CN.of_wp ?_)
  go_wp2
  rw [← hW1]
  clear hW1
  refine CN.seq (CN.of_wp ?_)
  go_wp2_with (go_at_call 38; refine h1.mono ?_; rintro e w9 ⟨rfl, rfl⟩)
  refine CN.seq (CN.of_wp ?_)
  go_wp2
  refine CN.seq ?_
  refine CN.recv_none (z := .agg #[.int .i64 0, .int .i64 0]) rfl (by simp [go_sem, execOp, rcase, Act.eval]) hc ?_
  go_wp2
  refine CN.of_wp ?_
  go_wp2_with fail
  refine hF.mono ?_
  rintro e W2 ⟨rfl, s2, k2⟩
  have x2 := x1.keep k2 (by simp; omega)
  have a0 := x2.c 0 _ rfl
  have a1 := x2.c 1 _ rfl
  have b0 := x2.z 0
  have b1 := x2.z 1
  go_wp2
  have x3 := ((x2.set 0 (by simp) (.int .i64 0)).set 1 (by simp) (.int .i64 0))
  have k3 : Ko [w.heap.size] W2 ((W2.setCell ⟨w.heap.size, 0, none⟩ (.int .i64 0)).setCell ⟨w.heap.size, 1, none⟩ (.int .i64 0)) := ((Ko.refl _ _).setCell (.inr (by simp)) _).setCell (.inr (by simp)) _
  have s3 := (s2.keep k3 (by simp; omega) (by simp; omega))
  have k4 : Ko [B] w ((W2.setCell ⟨w.heap.size, 0, none⟩ (.int .i64 0)).setCell ⟨w.heap.size, 1, none⟩ (.int .i64 0)) := (((k1.mono (by simp)).trans k2).setCell (.inl (Nat.le_refl _)) _).setCell (.inl (Nat.le_refl _)) _
  generalize ((W2.setCell ⟨w.heap.size, 0, none⟩ (.int .i64 0)).setCell ⟨w.heap.size, 1, none⟩ (.int .i64 0)) = W3 at *
  have r0 := x3.c 0 _ rfl
  have r1 := x3.c 1 _ rfl
  refine bodyPost_ret (by simp [results, Try.results27, go_sem, r0, r1]; rfl) rfl ?_
  exact ⟨rfl, s3, k4⟩
end Go.Proofs.Ytdedhiipamnahaa
