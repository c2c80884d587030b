/- Package free at int: all its methods. -/
import Derived.Test.YtdedhiipamnahaaYSto
import Derived.KernelRfl
namespace Go.Proofs.Ytdedhiipamnahaa
open Go.RowKit Go.Conc
set_option linter.unusedVariables false
set_option linter.unusedSimpArgs false

theorem neCi (c : Nat) (w : World) : (binOp BinOp.neq 56 (.chan (some c)) (.chan none)).run Try.prog w = .ok (.bool true) w := by kernel_rfl
theorem eqCi (w : World) : (binOp BinOp.neq 56 (.chan none) (.chan none)).run Try.prog w = .ok (.bool false) w := by kernel_rfl
theorem neFi (f : Fn) (a c : Array Value) (w : World) : (binOp BinOp.neq 25 (.func f a c) .nilFunc).run Try.prog w = .ok (.bool true) w := by kernel_rfl
theorem eqFi (w : World) : (binOp BinOp.neq 25 .nilFunc .nilFunc).run Try.prog w = .ok (.bool false) w := by kernel_rfl
theorem isMadei_any {w : World} {B c cap : Nat} {l : List Value} {mk : Value} {m : Int} (h : Sto w B c cap l mk m) :
    Calls Try.prog 31 #[.pointer (some ⟨B, 0, none⟩)] w fun e w' => e = .returned (.bool true) ∧ w' = w := by
  have c0 := h.bx.c 0 _ rfl
  have hn := fun w => neCi c w
  go_enter Try.func31, Try.ntmps31
  go_wp2
  go_ret
  exact ⟨rfl, rfl⟩
theorem isMadei_nil (w : World) : Calls Try.prog 31 #[.pointer none] w fun e w' => e = .returned (.bool false) ∧ w' = w := by
  go_enter Try.func31, Try.ntmps31
  go_wp2
  go_ret
  exact ⟨rfl, rfl⟩
theorem isMadei_no {w : World} {B : Nat} {mk x : Value} (h : Bq w B [.chan none, mk, x]) : Calls Try.prog 31 #[.pointer (some ⟨B, 0, none⟩)] w fun e w' => e = .returned (.bool false) ∧ w' = w := by
  have c0 := h.c 0 _ rfl
  have hn := fun w => eqCi w
  go_enter Try.func31, Try.ntmps31
  go_wp2
  go_ret
  exact ⟨rfl, rfl⟩
theorem leni_any {w : World} {B c cap : Nat} {l : List Value} {mk : Value} {m : Int} (h : Sto w B c cap l mk m) :
    Calls Try.prog 17 #[.pointer (some ⟨B, 0, none⟩)] w fun e w' => e = .returned (.int .i64 l.length) ∧ w' = w := by
  have c0 := h.bx.c 0 _ rfl
  have h1 := isMadei_any h
  obtain ⟨s, r, hc⟩ := h.ch
  have hlen := fun ty => run_len_chan (P := Try.prog) 56 ty Try.underlying56 hc
  simp only [List.size_toArray] at hlen
  go_enter Try.func17, Try.ntmps17
  go_wp2_with (go_at_call 31; refine h1.mono ?_; rintro e w9 ⟨rfl, rfl⟩)
  go_ret
  exact ⟨rfl, rfl⟩
theorem madei_any {w : World} {B c cap : Nat} {l : List Value} {mk : Value} {m : Int} (h : Sto w B c cap l mk m) :
    Calls Try.prog 18 #[.pointer (some ⟨B, 0, none⟩)] w fun e w' => e = .returned (.int .i64 m) ∧ w' = w := by
  have c2 := h.bx.c 2 _ rfl
  have h1 := isMadei_any h
  go_enter Try.func18, Try.ntmps18
  go_wp2_with (go_at_call 31; refine h1.mono ?_; rintro e w9 ⟨rfl, rfl⟩)
  go_ret
  exact ⟨rfl, rfl⟩

theorem bytesCi : ∃ i, Try.prog.info? 3 = some i ∧ i.bytes = 8 := by
  have h : (Try.prog.info? 3).map (·.bytes) = some 8 := by kernel_rfl
  obtain ⟨i, hi, hb⟩ := Option.map_eq_some_iff.1 h
  exact ⟨i, hi, hb⟩
theorem mkCi (n : Nat) (hn : n ≤ 64) (w : World) : (Instr.makeChan 56 (.int .i64 n)).run Try.prog w = .ok (.chan (some w.heap.size)) (w.alloc (.chan n #[] false 0 0 false)) := by
  obtain ⟨i, hi, hb⟩ := bytesCi
  simpa using run_makeChan (P := Try.prog) (w := w) Try.underlying56 hi .i64 n (by omega) (by rw [hb]; omega)
/-- How many things a store has room for. -/
def capN (n : Int) : Nat := (min (max n 0) 64).toNat
theorem capN_le (n : Int) : capN n ≤ 64 := by unfold capN; omega
theorem capN_eq (n : Int) : ((capN n : Nat) : Int) = min (max n 0) 64 := by unfold capN; omega
set_option maxRecDepth 100000 in
theorem roomi_any (n : Int) (w : World) : Calls Try.prog 30 #[.int .i64 n] w fun e w' => e = .returned (.chan (some w.heap.size)) ∧ w' = w.alloc (.chan (capN n) #[] false 0 0 false) := by
  have hm := fun w => mkCi (capN n) (capN_le n) w
  have hc := capN_eq n
  rcases Int.lt_or_le n 0 with h1 | h1
  · have e : capN n = 0 := by omega
    have hk : ∀ w : World, (Instr.makeChan 56 (.int .i64 0)).run Try.prog w = .ok (.chan (some w.heap.size)) (w.alloc (.chan 0 #[] false 0 0 false)) := fun w => mkCi 0 (by omega) w
    rw [e]
    clear hc hm e
    go_enter Try.func30, Try.ntmps30
    go_wp2
    go_ret
    exact ⟨rfl, rfl⟩
  · rcases Int.lt_or_le 64 n with h2 | h2
    · have e : capN n = 64 := by omega
      have hk : ∀ w : World, (Instr.makeChan 56 (.int .i64 64)).run Try.prog w = .ok (.chan (some w.heap.size)) (w.alloc (.chan 64 #[] false 0 0 false)) := fun w => mkCi 64 (by omega) w
      rw [e]
      clear hc hm e
      go_enter Try.func30, Try.ntmps30
      go_wp2
      go_ret
      exact ⟨rfl, rfl⟩
    · obtain ⟨k, rfl⟩ := Int.eq_ofNat_of_zero_le h1
      have e : capN k = k := by omega
      rw [e] at hm ⊢
      clear hc
      go_enter Try.func30, Try.ntmps30
      go_wp2
      go_ret
      exact ⟨rfl, rfl⟩

set_option maxRecDepth 100000 in
theorem newi_any (n : Int) (mk : Value) (hmk : mk = .nilFunc ∨ ∃ f a c, mk = .func f a c) (w : World) : Calls Try.prog 9 #[.int .i64 n, mk] w fun e w' =>
    ∃ B c, e = .returned (.pointer (some ⟨B, 0, none⟩)) ∧ w.heap.size ≤ B ∧ w.heap.size ≤ c ∧ Sto w' B c (capN n) [] mk 0 ∧ Ko [] w w' := by
  have h1 := roomi_any n w
  obtain ⟨W1, hW1⟩ : ∃ W1, W1 = w.alloc (.chan (capN n) #[] false 0 0 false) := ⟨_, rfl⟩
  have hfin : ∀ t, Sto (W1.alloc (.cells #[.chan (some w.heap.size), mk, .int .i64 0] t)) W1.heap.size w.heap.size (capN n) [] mk 0 ∧ Ko [] w (W1.alloc (.cells #[.chan (some w.heap.size), mk, .int .i64 0] t)) := by
    intro t
    refine ⟨⟨Bq.new _ [_, _, _] _, 0, 0, ?_⟩, ?_⟩
    · rw [Below.heap_alloc _ _ _ (by rw [hW1]; simp), hW1]
      exact heap_alloc_new w _
    · rw [hW1]
      exact ((Ko.refl _ _).alloc _).alloc _
  have hs : w.heap.size ≤ W1.heap.size := by rw [hW1]; simp
  rw [← hW1] at h1
  clear hW1
  generalize capN n = K at *
  rcases hmk with rfl | ⟨f, a, c, rfl⟩
  all_goals
    go_enter Try.func9, Try.ntmps9
    go_wp2_with (go_at_call 30; refine h1.mono ?_; rintro e w9 ⟨rfl, rfl⟩)
    go_ret
    exact ⟨_, _, rfl, hs, Nat.le_refl _, hfin _⟩
set_option maxRecDepth 100000 in
theorem puti_room {w : World} {B c cap : Nat} {l : List Value} {mk : Value} {m : Int} (h : Sto w B c cap l mk m) (x : Int) (hr : l.length < cap) :
    Calls Try.prog 13 #[.pointer (some ⟨B, 0, none⟩), Value.int .i64 x] w fun e w' => e = .returned (.bool true) ∧ Sto w' B c cap (l ++ [Value.int .i64 x]) mk m ∧ Ko [c] w w' := by
  have c0 := h.bx.c 0 _ rfl
  have h1 := isMadei_any h
  obtain ⟨s, r, hc⟩ := h.ch
  refine calls_of_CN Try.func13 rfl ?_
  simp only [Try.ntmps13, List.size_toArray, List.length_cons, List.length_nil, Nat.reduceAdd, Nat.reduceSub, Array.replicate_succ, Array.replicate_zero, List.push_toArray, List.append_toArray, List.nil_append, List.cons_append]
  refine CN.seq (CN.of_wp ?_)
  go_wp2
  refine CN.seq (CN.of_wp ?_)
  go_wp2_with (go_at_call 31; refine h1.mono ?_; rintro e w9 ⟨rfl, rfl⟩)
  refine CN.seq (CN.of_wp ?_)
  go_wp2
  refine CN.seq ?_
  refine CN.send_room (v := Value.int .i64 x) (z := Value.int .i64 0) rfl (by simp [go_sem, execOp, scase, Act.eval]) hc (by simpa using hr) ?_
  go_wp2
  refine CN.of_wp ?_
  go_wp2
  go_ret
  exact ⟨rfl, h.turn _ _, (Ko.refl _ _).setChan (.inr (by simp)) _ _ _ _ _ _⟩
set_option maxRecDepth 100000 in
theorem puti_full {w : World} {B c cap : Nat} {l : List Value} {mk : Value} {m : Int} (h : Sto w B c cap l mk m) (x : Int) (hr : cap ≤ l.length) :
    Calls Try.prog 13 #[.pointer (some ⟨B, 0, none⟩), Value.int .i64 x] w fun e w' => e = .returned (.bool false) ∧ w' = w := by
  have c0 := h.bx.c 0 _ rfl
  have h1 := isMadei_any h
  obtain ⟨s, r, hc⟩ := h.ch
  refine calls_of_CN Try.func13 rfl ?_
  simp only [Try.ntmps13, List.size_toArray, List.length_cons, List.length_nil, Nat.reduceAdd, Nat.reduceSub, Array.replicate_succ, Array.replicate_zero, List.push_toArray, List.append_toArray, List.nil_append, List.cons_append]
  refine CN.seq (CN.of_wp ?_)
  go_wp2
  refine CN.seq (CN.of_wp ?_)
  go_wp2_with (go_at_call 31; refine h1.mono ?_; rintro e w9 ⟨rfl, rfl⟩)
  refine CN.seq (CN.of_wp ?_)
  go_wp2
  refine CN.seq ?_
  refine CN.send_full (v := Value.int .i64 x) (z := Value.int .i64 0) rfl (by simp [go_sem, execOp, scase, Act.eval]) hc (by simpa using hr) ?_
  go_wp2
  refine CN.of_wp ?_
  go_wp2
  go_ret
  exact ⟨rfl, rfl⟩
set_option maxRecDepth 100000 in
theorem geti_some {w : World} {B c cap : Nat} {l : List Value} {mk : Value} {m : Int} (x : Int) (h : Sto w B c cap (Value.int .i64 x :: l) mk m) :
    Calls Try.prog 15 #[.pointer (some ⟨B, 0, none⟩)] w fun e w' => e = .returned (Value.int .i64 x) ∧ Sto w' B c cap l mk m ∧ Ko [c] w w' := by
  have c0 := h.bx.c 0 _ rfl
  have h1 := isMadei_any h
  obtain ⟨s, r, hc⟩ := h.ch
  refine calls_of_CN Try.func15 rfl ?_
  simp only [Try.ntmps15, List.size_toArray, List.length_cons, List.length_nil, Nat.reduceAdd, Nat.reduceSub, Array.replicate_succ, Array.replicate_zero, List.push_toArray, List.append_toArray, List.nil_append, List.cons_append]
  refine CN.seq (CN.of_wp ?_)
  go_wp2
  refine CN.seq (CN.of_wp ?_)
  go_wp2_with (go_at_call 31; refine h1.mono ?_; rintro e w9 ⟨rfl, rfl⟩)
  refine CN.seq (CN.of_wp ?_)
  go_wp2
  refine CN.seq ?_
  refine CN.recv_some (z := Value.int .i64 0) rfl (by simp [go_sem, execOp, rcase, Act.eval]) hc (by simp) ?_
  rw [getD_cons, ext_cons]
  go_wp2
  refine CN.of_wp ?_
  go_wp2
  go_ret
  exact ⟨rfl, h.turn _ _, (Ko.refl _ _).setChan (.inr (by simp)) _ _ _ _ _ _⟩
/-- The deferred closure of fresh. -/
theorem fresh1i_idle (p : Nat) {w : World} {B : Nat} {m : Int} (c : w.cell? ⟨p, 0, none⟩ = some (.pointer (some ⟨B, 0, none⟩))) (c2 : w.cell? ⟨B, 2, none⟩ = some (.int .i64 m)) (z : w.frozen? ⟨B, 2, none⟩ = false) (h0 : 0 ≤ m) (h1 : m < 9223372036854775807) :
    CallsD Try.prog 40 #[.pointer (some ⟨p, 0, none⟩)] .returning w fun e u' w' => e = .returned (.tuple #[]) ∧ u' = .returning ∧ w' = w.setCell ⟨B, 2, none⟩ (.int .i64 (m + 1)) := by
  refine callsD_of_wpS Try.func40 rfl fun c₀ cs hu => ?_
  refine wpS_seq ?_
  apply wpS_region
  simp [wpOpsS, go_sem, recoverD, hu, Try.ntmps40, Exit.thenS, c, c2, z]
  rw [show (#[Value.pointer (some ⟨p, 0, none⟩)] ++ (Array.replicate 8 undef).setIfInBounds 0 Value.nilIface) = #[.pointer (some ⟨p, 0, none⟩), .nilIface, undef, undef, undef, undef, undef, undef, undef] from rfl]
  refine wpS_of_wp ?_
  go_wp2
  exact ⟨rfl, .returning, by rw [← hu], _, results_none rfl _ _ _, rfl, rfl, rfl⟩
set_option maxRecDepth 100000 in
theorem freshi_nil {w : World} {B c cap : Nat} {l : List Value} {m : Int} (h : Sto w B c cap l .nilFunc m) (h0 : 0 ≤ m) (h1 : m < 9223372036854775807) :
    Calls Try.prog 32 #[.pointer (some ⟨B, 0, none⟩)] w fun e w' => e = .returned (Value.int .i64 0) ∧ Sto w' B c cap l .nilFunc (m + 1) ∧ Ko [B] w w' := by
  obtain ⟨W1, hW1⟩ : ∃ W1, W1 = w.alloc (.cells #[.pointer (some ⟨B, 0, none⟩)] 23) := ⟨_, rfl⟩
  have hb : Bq W1 w.heap.size [.pointer (some ⟨B, 0, none⟩)] := by rw [hW1]; exact Bq.new _ _ _
  have k1 : Ko [B] w W1 := by rw [hW1]; exact (Ko.refl _ _).alloc _
  have k0 : Ko [] w W1 := by rw [hW1]; exact (Ko.refl _ _).alloc _
  have s1 := h.keep k0 (by simp) (by simp)
  have a0 := hb.c 0 _ rfl
  have a1 := s1.bx.c 1 _ rfl
  have a2 := s1.bx.c 2 _ rfl
  have a3 := s1.bx.z 2
  have hn := fun w => eqFi w
  have hmf : ∀ (fn : Fn) (first cap : Array Value) (w : World), (Instr.makeFunc fn first cap).run Try.prog w = .ok (.func fn first cap) w := fun _ _ _ _ => rfl
  go_enter_defers Try.func32, Try.ntmps32
  go_upto_region 1 with fail
  rw [← hW1]
  clear hW1
  go_wp2
  refine leaves_cons (f := 40) (args := #[.pointer (some ⟨w.heap.size, 0, none⟩)]) (by simp) (by simp [go_sem]) ?_
  refine (fresh1i_idle _ a0 a2 a3 h0 h1).mono ?_
  rintro e u' w'' ⟨rfl, rfl, rfl⟩
  refine ⟨Value.int .i64 0, ?_, rfl, s1.made _, k1.setCell (.inr (by simp)) _⟩
  simp [results, Try.results32, go_sem]
theorem lives131_any {w : World} {N : Nat} {n : Int} (h : Bq w N [.int .i64 n]) (n0 : 0 ≤ n) (n1 : n < 9223372036854775807) :
    Calls Try.prog 33 #[.pointer (some ⟨N, 0, none⟩)] w fun e w' => e = .returned (.int .i64 (-(n + 1))) ∧ Bq w' N [.int .i64 (n + 1)] ∧ Ko [N] w w' := by
  have c0 := h.c 0 _ rfl
  have z0 := h.z 0
  go_enter Try.func33, Try.ntmps33
  go_wp2
  go_ret
  exact ⟨rfl, h.set 0 (by simp) _, (Ko.refl _ _).setCell (.inr (by simp)) _⟩
set_option maxRecDepth 100000 in
theorem freshi_lives131 {w : World} {B c cap : Nat} {l : List Value} {m : Int} {N : Nat} {n : Int} (h : Sto w B c cap l (.func (.func 33) #[] #[.pointer (some ⟨N, 0, none⟩)]) m) (h0 : 0 ≤ m) (h1 : m < 9223372036854775807) (hq : Bq w N [.int .i64 n]) (hN : N ≠ B) (n0 : 0 ≤ n) (n1 : n < 9223372036854775807) :
    Calls Try.prog 32 #[.pointer (some ⟨B, 0, none⟩)] w fun e w' => e = .returned (Value.int .i64 (-(n + 1))) ∧ Sto w' B c cap l (.func (.func 33) #[] #[.pointer (some ⟨N, 0, none⟩)]) (m + 1) ∧ Bq w' N [.int .i64 (n + 1)] ∧ Ko [B, N] w w' := by
  obtain ⟨W1, hW1⟩ : ∃ W1, W1 = w.alloc (.cells #[.pointer (some ⟨B, 0, none⟩)] 23) := ⟨_, rfl⟩
  have hb : Bq W1 w.heap.size [.pointer (some ⟨B, 0, none⟩)] := by rw [hW1]; exact Bq.new _ _ _
  have k0 : Ko [] w W1 := by rw [hW1]; exact (Ko.refl _ _).alloc _
  have s1 := h.keep k0 (by simp) (by simp)
  have a0 := hb.c 0 _ rfl
  have a1 := s1.bx.c 1 _ rfl
  have hn := fun a b d w => neFi a b d w
  have hmf : ∀ (fn : Fn) (first cap : Array Value) (w : World), (Instr.makeFunc fn first cap).run Try.prog w = .ok (.func fn first cap) w := fun _ _ _ _ => rfl
  have q1 := hq.keep k0 (by simp)
  have hF := lives131_any q1 n0 n1
  have hNc : c ≠ N := by
    rintro rfl
    obtain ⟨s, r, hc⟩ := h.ch
    have := hq.c 0 _ rfl
    simp [World.cell?, hc] at this
  go_enter_defers Try.func32, Try.ntmps32
  go_upto_region 1 with fail
  rw [← hW1]
  clear hW1
  go_wp2_with fail
  refine hF.mono ?_
  rintro e W2 ⟨rfl, q2, k2⟩
  have s2 := s1.keep k2 (by simpa using hN.symm) (by simpa using hNc)
  have hNw : w.heap.size ≠ N := by have := hq.b; omega
  have b0 := (hb.keep k2 (by simpa using hNw)).c 0 _ rfl
  have b2 := s2.bx.c 2 _ rfl
  have b3 := s2.bx.z 2
  go_wp2
  refine leaves_cons (f := 40) (args := #[.pointer (some ⟨w.heap.size, 0, none⟩)]) (by simp) (by simp [go_sem]) ?_
  refine (fresh1i_idle _ b0 b2 b3 h0 h1).mono ?_
  rintro e u' w'' ⟨rfl, rfl, rfl⟩
  refine ⟨Value.int .i64 (-(n + 1)), ?_, rfl, s2.made _, (q2.same (Below.heap_setCell _ _ _ _ hN) (by simp [World.setCell])), ((k0.mono (by simp)).trans (k2.mono (fun k _ e => List.mem_cons_of_mem _ e))).setCell (.inr (by simp)) _⟩
  simp [results, Try.results32, go_sem]
set_option maxRecDepth 100000 in
theorem geti_lives131 {w : World} {B c cap : Nat} {m : Int} {N : Nat} {n : Int} (h : Sto w B c cap [] (.func (.func 33) #[] #[.pointer (some ⟨N, 0, none⟩)]) m) (h0 : 0 ≤ m) (h2 : m < 9223372036854775807) (hq : Bq w N [.int .i64 n]) (hN : N ≠ B) (n0 : 0 ≤ n) (n1 : n < 9223372036854775807) :
    Calls Try.prog 15 #[.pointer (some ⟨B, 0, none⟩)] w fun e w' => e = .returned (Value.int .i64 (-(n + 1))) ∧ Sto w' B c cap [] (.func (.func 33) #[] #[.pointer (some ⟨N, 0, none⟩)]) (m + 1) ∧ Bq w' N [.int .i64 (n + 1)] ∧ Ko [B, N] w w' := by
  have c0 := h.bx.c 0 _ rfl
  have h1 := isMadei_any h
  have hF := freshi_lives131 h h0 h2 hq hN n0 n1
  obtain ⟨s, r, hc⟩ := h.ch
  refine calls_of_CN Try.func15 rfl ?_
  simp only [Try.ntmps15, List.size_toArray, List.length_cons, List.length_nil, Nat.reduceAdd, Nat.reduceSub, Array.replicate_succ, Array.replicate_zero, List.push_toArray, List.append_toArray, List.nil_append, List.cons_append]
  refine CN.seq (CN.of_wp ?_)
  go_wp2
  refine CN.seq (CN.of_wp ?_)
  go_wp2_with (go_at_call 31; refine h1.mono ?_; rintro e w9 ⟨rfl, rfl⟩)
  refine CN.seq (CN.of_wp ?_)
  go_wp2
  refine CN.seq ?_
  refine CN.recv_none (z := Value.int .i64 0) rfl (by simp [go_sem, execOp, rcase, Act.eval]) hc ?_
  go_wp2
  refine CN.of_wp ?_
  go_wp2_with (go_at_call 32; refine hF.mono ?_; rintro e w8 ⟨rfl, hs8, hk8⟩)
  go_ret
  exact ⟨rfl, hs8, hk8⟩
theorem plays1_any {w : World} {N : Nat} {n : Int} (h : Bq w N [.int .i64 n]) (n0 : 0 ≤ n) (n1 : n < 9223372036854775807) :
    Calls Try.prog 10 #[.pointer (some ⟨N, 0, none⟩)] w fun e w' => e = .returned (.int .i64 (-(n + 1))) ∧ Bq w' N [.int .i64 (n + 1)] ∧ Ko [N] w w' := by
  have c0 := h.c 0 _ rfl
  have z0 := h.z 0
  go_enter Try.func10, Try.ntmps10
  go_wp2
  go_ret
  exact ⟨rfl, h.set 0 (by simp) _, (Ko.refl _ _).setCell (.inr (by simp)) _⟩
set_option maxRecDepth 100000 in
theorem freshi_plays1 {w : World} {B c cap : Nat} {l : List Value} {m : Int} {N : Nat} {n : Int} (h : Sto w B c cap l (.func (.func 10) #[] #[.pointer (some ⟨N, 0, none⟩)]) m) (h0 : 0 ≤ m) (h1 : m < 9223372036854775807) (hq : Bq w N [.int .i64 n]) (hN : N ≠ B) (n0 : 0 ≤ n) (n1 : n < 9223372036854775807) :
    Calls Try.prog 32 #[.pointer (some ⟨B, 0, none⟩)] w fun e w' => e = .returned (Value.int .i64 (-(n + 1))) ∧ Sto w' B c cap l (.func (.func 10) #[] #[.pointer (some ⟨N, 0, none⟩)]) (m + 1) ∧ Bq w' N [.int .i64 (n + 1)] ∧ Ko [B, N] w w' := by
  obtain ⟨W1, hW1⟩ : ∃ W1, W1 = w.alloc (.cells #[.pointer (some ⟨B, 0, none⟩)] 23) := ⟨_, rfl⟩
  have hb : Bq W1 w.heap.size [.pointer (some ⟨B, 0, none⟩)] := by rw [hW1]; exact Bq.new _ _ _
  have k0 : Ko [] w W1 := by rw [hW1]; exact (Ko.refl _ _).alloc _
  have s1 := h.keep k0 (by simp) (by simp)
  have a0 := hb.c 0 _ rfl
  have a1 := s1.bx.c 1 _ rfl
  have hn := fun a b d w => neFi a b d w
  have hmf : ∀ (fn : Fn) (first cap : Array Value) (w : World), (Instr.makeFunc fn first cap).run Try.prog w = .ok (.func fn first cap) w := fun _ _ _ _ => rfl
  have q1 := hq.keep k0 (by simp)
  have hF := plays1_any q1 n0 n1
  have hNc : c ≠ N := by
    rintro rfl
    obtain ⟨s, r, hc⟩ := h.ch
    have := hq.c 0 _ rfl
    simp [World.cell?, hc] at this
  go_enter_defers Try.func32, Try.ntmps32
  go_upto_region 1 with fail
  rw [← hW1]
  clear hW1
  go_wp2_with fail
  refine hF.mono ?_
  rintro e W2 ⟨rfl, q2, k2⟩
  have s2 := s1.keep k2 (by simpa using hN.symm) (by simpa using hNc)
  have hNw : w.heap.size ≠ N := by have := hq.b; omega
  have b0 := (hb.keep k2 (by simpa using hNw)).c 0 _ rfl
  have b2 := s2.bx.c 2 _ rfl
  have b3 := s2.bx.z 2
  go_wp2
  refine leaves_cons (f := 40) (args := #[.pointer (some ⟨w.heap.size, 0, none⟩)]) (by simp) (by simp [go_sem]) ?_
  refine (fresh1i_idle _ b0 b2 b3 h0 h1).mono ?_
  rintro e u' w'' ⟨rfl, rfl, rfl⟩
  refine ⟨Value.int .i64 (-(n + 1)), ?_, rfl, s2.made _, (q2.same (Below.heap_setCell _ _ _ _ hN) (by simp [World.setCell])), ((k0.mono (by simp)).trans (k2.mono (fun k _ e => List.mem_cons_of_mem _ e))).setCell (.inr (by simp)) _⟩
  simp [results, Try.results32, go_sem]
set_option maxRecDepth 100000 in
theorem geti_plays1 {w : World} {B c cap : Nat} {m : Int} {N : Nat} {n : Int} (h : Sto w B c cap [] (.func (.func 10) #[] #[.pointer (some ⟨N, 0, none⟩)]) m) (h0 : 0 ≤ m) (h2 : m < 9223372036854775807) (hq : Bq w N [.int .i64 n]) (hN : N ≠ B) (n0 : 0 ≤ n) (n1 : n < 9223372036854775807) :
    Calls Try.prog 15 #[.pointer (some ⟨B, 0, none⟩)] w fun e w' => e = .returned (Value.int .i64 (-(n + 1))) ∧ Sto w' B c cap [] (.func (.func 10) #[] #[.pointer (some ⟨N, 0, none⟩)]) (m + 1) ∧ Bq w' N [.int .i64 (n + 1)] ∧ Ko [B, N] w w' := by
  have c0 := h.bx.c 0 _ rfl
  have h1 := isMadei_any h
  have hF := freshi_plays1 h h0 h2 hq hN n0 n1
  obtain ⟨s, r, hc⟩ := h.ch
  refine calls_of_CN Try.func15 rfl ?_
  simp only [Try.ntmps15, List.size_toArray, List.length_cons, List.length_nil, Nat.reduceAdd, Nat.reduceSub, Array.replicate_succ, Array.replicate_zero, List.push_toArray, List.append_toArray, List.nil_append, List.cons_append]
  refine CN.seq (CN.of_wp ?_)
  go_wp2
  refine CN.seq (CN.of_wp ?_)
  go_wp2_with (go_at_call 31; refine h1.mono ?_; rintro e w9 ⟨rfl, rfl⟩)
  refine CN.seq (CN.of_wp ?_)
  go_wp2
  refine CN.seq ?_
  refine CN.recv_none (z := Value.int .i64 0) rfl (by simp [go_sem, execOp, rcase, Act.eval]) hc ?_
  go_wp2
  refine CN.of_wp ?_
  go_wp2_with (go_at_call 32; refine hF.mono ?_; rintro e w8 ⟨rfl, hs8, hk8⟩)
  go_ret
  exact ⟨rfl, hs8, hk8⟩
set_option maxRecDepth 100000 in
theorem geti_nil {w : World} {B c cap : Nat} {m : Int} (h : Sto w B c cap [] .nilFunc m) (h0 : 0 ≤ m) (h2 : m < 9223372036854775807) :
    Calls Try.prog 15 #[.pointer (some ⟨B, 0, none⟩)] w fun e w' => e = .returned (Value.int .i64 0) ∧ Sto w' B c cap [] .nilFunc (m + 1) ∧ Ko [B] w w' := by
  have c0 := h.bx.c 0 _ rfl
  have h1 := isMadei_any h
  have hF := freshi_nil h h0 h2
  obtain ⟨s, r, hc⟩ := h.ch
  refine calls_of_CN Try.func15 rfl ?_
  simp only [Try.ntmps15, List.size_toArray, List.length_cons, List.length_nil, Nat.reduceAdd, Nat.reduceSub, Array.replicate_succ, Array.replicate_zero, List.push_toArray, List.append_toArray, List.nil_append, List.cons_append]
  refine CN.seq (CN.of_wp ?_)
  go_wp2
  refine CN.seq (CN.of_wp ?_)
  go_wp2_with (go_at_call 31; refine h1.mono ?_; rintro e w9 ⟨rfl, rfl⟩)
  refine CN.seq (CN.of_wp ?_)
  go_wp2
  refine CN.seq ?_
  refine CN.recv_none (z := Value.int .i64 0) rfl (by simp [go_sem, execOp, rcase, Act.eval]) hc ?_
  go_wp2
  refine CN.of_wp ?_
  go_wp2_with (go_at_call 32; refine hF.mono ?_; rintro e w8 ⟨rfl, hs8, hk8⟩)
  go_ret
  exact ⟨rfl, hs8, hk8⟩
/-- A nil store, and one that New didn't make. -/
theorem geti_none {w : World} {v : Value} (h : Calls Try.prog 31 #[v] w fun e w' => e = .returned (.bool false) ∧ w' = w) : Calls Try.prog 15 #[v] w fun e w' => e = .returned (Value.int .i64 0) ∧ w' = w := by
  go_enter Try.func15, Try.ntmps15
  go_wp2_with (go_at_call 31; refine h.mono ?_; rintro e w9 ⟨rfl, rfl⟩)
  go_ret
  exact ⟨rfl, rfl⟩
theorem puti_none {w : World} {v : Value} (h : Calls Try.prog 31 #[v] w fun e w' => e = .returned (.bool false) ∧ w' = w) (x : Int) : Calls Try.prog 13 #[v, Value.int .i64 x] w fun e w' => e = .returned (.bool false) ∧ w' = w := by
  go_enter Try.func13, Try.ntmps13
  go_wp2_with (go_at_call 31; refine h.mono ?_; rintro e w9 ⟨rfl, rfl⟩)
  go_ret
  exact ⟨rfl, rfl⟩
theorem leni_none {w : World} {v : Value} (h : Calls Try.prog 31 #[v] w fun e w' => e = .returned (.bool false) ∧ w' = w) : Calls Try.prog 17 #[v] w fun e w' => e = .returned (.int .i64 0) ∧ w' = w := by
  go_enter Try.func17, Try.ntmps17
  go_wp2_with (go_at_call 31; refine h.mono ?_; rintro e w9 ⟨rfl, rfl⟩)
  go_ret
  exact ⟨rfl, rfl⟩
theorem madei_none {w : World} {v : Value} (h : Calls Try.prog 31 #[v] w fun e w' => e = .returned (.bool false) ∧ w' = w) : Calls Try.prog 18 #[v] w fun e w' => e = .returned (.int .i64 0) ∧ w' = w := by
  go_enter Try.func18, Try.ntmps18
  go_wp2_with (go_at_call 31; refine h.mono ?_; rintro e w9 ⟨rfl, rfl⟩)
  go_ret
  exact ⟨rfl, rfl⟩
end Go.Proofs.Ytdedhiipamnahaa
