/- made, at the kinds without parts: a theorem a kind. -/
import Derived.Test.YtdlnmnipnkeabaaGreatDoorVCheck
import Derived.BigQuiet
namespace Go.Proofs.YtdlnmnipnkeabaaGreatDoor
open Go.RowKit
set_option linter.unusedVariables false
def swr (m b : Int) : Int := if m ≤ 2 * (b % m) then b % m - m else b % m
def sgN (k b : Int) : Int := if k = 2 then swr 256 b else if k = 3 then swr 65536 b else if k = 4 then swr 4294967296 b else swr 18446744073709551616 b
def unN (k b : Int) : Int := if k = 7 then b % 256 else if k = 8 then b % 65536 else if k = 9 then b % 4294967296 else b
theorem wrap_i8 (b : Int) : IntKind.i8.wrap b = swr 256 b := by
 simp only [IntKind.wrap, IntKind.bits, IntKind.signed, swr]
 by_cases h : (128 : Int) ≤ b % 256
 ·simp [h, show (256 : Int) ≤ 2 * (b % 256) by omega]
 ·simp [h, show ¬ (256 : Int) ≤ 2 * (b % 256) by omega]
theorem wrap_i16 (b : Int) : IntKind.i16.wrap b = swr 65536 b := by
 simp only [IntKind.wrap, IntKind.bits, IntKind.signed, swr]
 by_cases h : (32768 : Int) ≤ b % 65536
 ·simp [h, show (65536 : Int) ≤ 2 * (b % 65536) by omega]
 ·simp [h, show ¬ (65536 : Int) ≤ 2 * (b % 65536) by omega]
theorem wrap_i32 (b : Int) : IntKind.i32.wrap b = swr 4294967296 b := by
 simp only [IntKind.wrap, IntKind.bits, IntKind.signed, swr]
 by_cases h : (2147483648 : Int) ≤ b % 4294967296
 ·simp [h, show (4294967296 : Int) ≤ 2 * (b % 4294967296) by omega]
 ·simp [h, show ¬ (4294967296 : Int) ≤ 2 * (b % 4294967296) by omega]
theorem wrap_i64 (b : Int) : IntKind.i64.wrap b = swr 18446744073709551616 b := by
 simp only [IntKind.wrap, IntKind.bits, IntKind.signed, swr]
 by_cases h : (9223372036854775808 : Int) ≤ b % 18446744073709551616
 ·simp [h, show (18446744073709551616 : Int) ≤ 2 * (b % 18446744073709551616) by omega]
 ·simp [h, show ¬ (18446744073709551616 : Int) ≤ 2 * (b % 18446744073709551616) by omega]
theorem swr_in (m b : Int) (h : 0 < m) : -m ≤ 2 * swr m b ∧ 2 * swr m b < m := by
 unfold swr
 have h1 := Int.emod_nonneg b (show m ≠ 0 by omega)
 have h2 := Int.emod_lt_of_pos b h
 split <;> omega
theorem swr_id (b : Int) (h : -9223372036854775808 ≤ b) (h' : b ≤ 9223372036854775807) : swr 18446744073709551616 b = b := by
 unfold swr; split <;> omega
def mdV (d : D) : Value :=
 if d.kind = 1 then .iface 157 (.agg #[.int .i64 d.kind, .string d.ty, .int .i64 d.hook, .bool (decide (d.bits % 2 = 1))])
 else if 2 ≤ d.kind ∧ d.kind ≤ 6 then .iface 160 (.agg #[.int .i64 d.kind, .string d.ty, .int .i64 d.hook, .int .i64 (sgN d.kind d.bits)])
 else if 7 ≤ d.kind ∧ d.kind ≤ 11 then .iface 163 (.agg #[.int .i64 d.kind, .string d.ty, .int .i64 d.hook, .int .u64 (unN d.kind d.bits)])
 else if d.kind = 12 then .iface 166 (.agg #[.int .i64 d.kind, .string d.ty, .int .i64 d.hook, .int .u64 (d.bits % 4294967296)])
 else if d.kind = 13 then .iface 166 (.agg #[.int .i64 d.kind, .string d.ty, .int .i64 d.hook, .int .u64 d.bits])
 else if d.kind = 14 then .iface 168 (.agg #[.int .i64 d.kind, .string d.ty, .int .i64 d.hook, .int .u64 (d.bits % 4294967296), .int .u64 (d.imag % 4294967296)])
 else if d.kind = 15 then .iface 168 (.agg #[.int .i64 d.kind, .string d.ty, .int .i64 d.hook, .int .u64 d.bits, .int .u64 d.imag])
 else if d.kind = 16 then .iface 170 (.agg #[.int .i64 d.kind, .string d.ty, .int .i64 d.hook, .string d.text])
 else if d.kind = 17 then .iface 171 (.agg #[.int .i64 d.kind, .string d.ty, .int .i64 d.hook, .string d.text])
 else .iface 185 (.agg #[.int .i64 0, .string ⟨#[]⟩, .int .i64 0])
theorem sbits_2 (b : Int) (w : World) (h0 : 0 ≤ b) (h1 : b ≤ 18446744073709551615) : Calls Tryz.prog 96 #[.int .i64 2, .int .u64 b] w fun e w' => e = .returned (.int .i64 (sgN 2 b)) ∧ w' = w := by
 go_enter Tryz.func96, Tryz.ntmps96
 go_wp2
 go_ret
 refine ⟨?_, rfl⟩
 show Ending.returned (.int .i64 _) = _
 have hs := swr_in 256 b (by decide)
 have e : wrap64 (IntKind.i8.wrap b) = sgN 2 b := by
  rw [wrap_i8]
  unfold wrap64
  first | rw [wrap_i64] | skip
  show _ = swr 256 b
  first | exact swr_id _ (by omega) (by omega) | (unfold swr at *; omega)
 rw [← e]
 try rfl
 try (simp only [wrap32, IntKind.wrap_i32]; done)
 try (rw [IntKind.wrap_i32]; rfl)
theorem sbits_3 (b : Int) (w : World) (h0 : 0 ≤ b) (h1 : b ≤ 18446744073709551615) : Calls Tryz.prog 96 #[.int .i64 3, .int .u64 b] w fun e w' => e = .returned (.int .i64 (sgN 3 b)) ∧ w' = w := by
 go_enter Tryz.func96, Tryz.ntmps96
 go_wp2
 go_ret
 refine ⟨?_, rfl⟩
 show Ending.returned (.int .i64 _) = _
 have hs := swr_in 65536 b (by decide)
 have e : wrap64 (IntKind.i16.wrap b) = sgN 3 b := by
  rw [wrap_i16]
  unfold wrap64
  first | rw [wrap_i64] | skip
  show _ = swr 65536 b
  first | exact swr_id _ (by omega) (by omega) | (unfold swr at *; omega)
 rw [← e]
 try rfl
 try (simp only [wrap32, IntKind.wrap_i32]; done)
 try (rw [IntKind.wrap_i32]; rfl)
theorem sbits_4 (b : Int) (w : World) (h0 : 0 ≤ b) (h1 : b ≤ 18446744073709551615) : Calls Tryz.prog 96 #[.int .i64 4, .int .u64 b] w fun e w' => e = .returned (.int .i64 (sgN 4 b)) ∧ w' = w := by
 go_enter Tryz.func96, Tryz.ntmps96
 go_wp2
 go_ret
 refine ⟨?_, rfl⟩
 show Ending.returned (.int .i64 _) = _
 have hs := swr_in 4294967296 b (by decide)
 have e : wrap64 (IntKind.i32.wrap b) = sgN 4 b := by
  rw [wrap_i32]
  unfold wrap64
  first | rw [wrap_i64] | skip
  show _ = swr 4294967296 b
  first | exact swr_id _ (by omega) (by omega) | (unfold swr at *; omega)
 rw [← e]
 try rfl
 try (simp only [wrap32, IntKind.wrap_i32]; done)
 try (rw [IntKind.wrap_i32]; rfl)
theorem sbits_5 (b : Int) (w : World) (h0 : 0 ≤ b) (h1 : b ≤ 18446744073709551615) : Calls Tryz.prog 96 #[.int .i64 5, .int .u64 b] w fun e w' => e = .returned (.int .i64 (sgN 5 b)) ∧ w' = w := by
 go_enter Tryz.func96, Tryz.ntmps96
 go_wp2
 go_ret
 refine ⟨?_, rfl⟩
 show Ending.returned (.int .i64 _) = _
 have e : wrap64 b = sgN 5 b := by
  unfold wrap64
  first | rw [wrap_i64] | skip
  show _ = swr 18446744073709551616 b
  first | rfl | (unfold swr at *; omega)
 rw [← e]
 try rfl
theorem sbits_6 (b : Int) (w : World) (h0 : 0 ≤ b) (h1 : b ≤ 18446744073709551615) : Calls Tryz.prog 96 #[.int .i64 6, .int .u64 b] w fun e w' => e = .returned (.int .i64 (sgN 6 b)) ∧ w' = w := by
 go_enter Tryz.func96, Tryz.ntmps96
 go_wp2
 go_ret
 refine ⟨?_, rfl⟩
 show Ending.returned (.int .i64 _) = _
 have e : wrap64 b = sgN 6 b := by
  unfold wrap64
  first | rw [wrap_i64] | skip
  show _ = swr 18446744073709551616 b
  first | rfl | (unfold swr at *; omega)
 rw [← e]
 try rfl
theorem ubits_7 (b : Int) (w : World) (h0 : 0 ≤ b) (h1 : b ≤ 18446744073709551615) : Calls Tryz.prog 97 #[.int .i64 7, .int .u64 b] w fun e w' => e = .returned (.int .u64 (unN 7 b)) ∧ w' = w := by
 go_enter Tryz.func97, Tryz.ntmps97
 go_wp2
 go_ret
 refine ⟨?_, rfl⟩
 first | rfl | (show Ending.returned (.int .u64 (IntKind.u64.wrap (IntKind.u16.wrap b))) = Ending.returned (.int .u64 (b % 65536)); exact congrArg (fun z => Ending.returned (.int .u64 z)) (by simp only [IntKind.wrap, IntKind.bits, IntKind.signed]; simp; omega))
theorem ubits_8 (b : Int) (w : World) (h0 : 0 ≤ b) (h1 : b ≤ 18446744073709551615) : Calls Tryz.prog 97 #[.int .i64 8, .int .u64 b] w fun e w' => e = .returned (.int .u64 (unN 8 b)) ∧ w' = w := by
 go_enter Tryz.func97, Tryz.ntmps97
 go_wp2
 go_ret
 refine ⟨?_, rfl⟩
 first | rfl | (show Ending.returned (.int .u64 (IntKind.u64.wrap (IntKind.u16.wrap b))) = Ending.returned (.int .u64 (b % 65536)); exact congrArg (fun z => Ending.returned (.int .u64 z)) (by simp only [IntKind.wrap, IntKind.bits, IntKind.signed]; simp; omega))
theorem ubits_9 (b : Int) (w : World) (h0 : 0 ≤ b) (h1 : b ≤ 18446744073709551615) : Calls Tryz.prog 97 #[.int .i64 9, .int .u64 b] w fun e w' => e = .returned (.int .u64 (unN 9 b)) ∧ w' = w := by
 go_enter Tryz.func97, Tryz.ntmps97
 go_wp2
 go_ret
 refine ⟨?_, rfl⟩
 first | rfl | (show Ending.returned (.int .u64 (IntKind.u64.wrap (IntKind.u16.wrap b))) = Ending.returned (.int .u64 (b % 65536)); exact congrArg (fun z => Ending.returned (.int .u64 z)) (by simp only [IntKind.wrap, IntKind.bits, IntKind.signed]; simp; omega))
theorem ubits_10 (b : Int) (w : World) (h0 : 0 ≤ b) (h1 : b ≤ 18446744073709551615) : Calls Tryz.prog 97 #[.int .i64 10, .int .u64 b] w fun e w' => e = .returned (.int .u64 (unN 10 b)) ∧ w' = w := by
 go_enter Tryz.func97, Tryz.ntmps97
 go_wp2
 go_ret
 refine ⟨?_, rfl⟩
 first | rfl | (show Ending.returned (.int .u64 (IntKind.u64.wrap (IntKind.u16.wrap b))) = Ending.returned (.int .u64 (b % 65536)); exact congrArg (fun z => Ending.returned (.int .u64 z)) (by simp only [IntKind.wrap, IntKind.bits, IntKind.signed]; simp; omega))
theorem ubits_11 (b : Int) (w : World) (h0 : 0 ≤ b) (h1 : b ≤ 18446744073709551615) : Calls Tryz.prog 97 #[.int .i64 11, .int .u64 b] w fun e w' => e = .returned (.int .u64 (unN 11 b)) ∧ w' = w := by
 go_enter Tryz.func97, Tryz.ntmps97
 go_wp2
 go_ret
 refine ⟨?_, rfl⟩
 first | rfl | (show Ending.returned (.int .u64 (IntKind.u64.wrap (IntKind.u16.wrap b))) = Ending.returned (.int .u64 (b % 65536)); exact congrArg (fun z => Ending.returned (.int .u64 z)) (by simp only [IntKind.wrap, IntKind.bits, IntKind.signed]; simp; omega))
set_option maxRecDepth 1000000 in
set_option maxHeartbeats 4000000 in
theorem made_0 (d : D) (na pa : Option Addr) (nc pc : Nat) (w : World) (hk : d.kind = 0) (hb0 : 0 ≤ d.bits) (hb1 : d.bits ≤ 18446744073709551615) (hi0 : 0 ≤ d.imag) (hi1 : d.imag ≤ 18446744073709551615) :
  Calls Tryz.prog 75 #[DV d (.slice na d.names.length nc) (.slice pa d.parts.length pc)] w fun e w' => e = .returned (mdV d) ∧ Below w.heap.size w w' := by
 obtain ⟨kind, ty, bits, imag, text, names, parts, hook⟩ := d
 simp only at hk hb0 hb1 hi0 hi1 ⊢
 subst hk
 have bel : ∀ c1 t1 c2 t2, Below w.heap.size w ((w.alloc (.cells c1 t1)).alloc (.cells c2 t2)) := fun _ _ _ _ => ((Below.refl _ _).alloc (Nat.le_refl _) _).alloc (by simp) _
 go_enter Tryz.func75, Tryz.ntmps75
 go_wp2
 go_ret
 exact ⟨rfl, bel _ _ _ _⟩
set_option maxRecDepth 1000000 in
set_option maxHeartbeats 4000000 in
theorem made_1 (d : D) (na pa : Option Addr) (nc pc : Nat) (w : World) (hk : d.kind = 1) (hb0 : 0 ≤ d.bits) (hb1 : d.bits ≤ 18446744073709551615) (hi0 : 0 ≤ d.imag) (hi1 : d.imag ≤ 18446744073709551615) :
  Calls Tryz.prog 75 #[DV d (.slice na d.names.length nc) (.slice pa d.parts.length pc)] w fun e w' => e = .returned (mdV d) ∧ Below w.heap.size w w' := by
 obtain ⟨kind, ty, bits, imag, text, names, parts, hook⟩ := d
 simp only at hk hb0 hb1 hi0 hi1 ⊢
 subst hk
 have bel : ∀ c1 t1 c2 t2, Below w.heap.size w ((w.alloc (.cells c1 t1)).alloc (.cells c2 t2)) := fun _ _ _ _ => ((Below.refl _ _).alloc (Nat.le_refl _) _).alloc (by simp) _
 go_enter Tryz.func75, Tryz.ntmps75
 go_wp2
 go_ret
 exact ⟨by
  show Ending.returned (.iface 157 (.agg #[.int .i64 1, .string ty, .int .i64 hook, .bool (bits % 2 == 1)])) = Ending.returned (.iface 157 (.agg #[.int .i64 1, .string ty, .int .i64 hook, .bool (decide (bits % 2 = 1))]))
  rfl, bel _ _ _ _⟩
set_option maxRecDepth 1000000 in
set_option maxHeartbeats 4000000 in
theorem made_2 (d : D) (na pa : Option Addr) (nc pc : Nat) (w : World) (hk : d.kind = 2) (hb0 : 0 ≤ d.bits) (hb1 : d.bits ≤ 18446744073709551615) (hi0 : 0 ≤ d.imag) (hi1 : d.imag ≤ 18446744073709551615) :
  Calls Tryz.prog 75 #[DV d (.slice na d.names.length nc) (.slice pa d.parts.length pc)] w fun e w' => e = .returned (mdV d) ∧ Below w.heap.size w w' := by
 obtain ⟨kind, ty, bits, imag, text, names, parts, hook⟩ := d
 simp only at hk hb0 hb1 hi0 hi1 ⊢
 subst hk
 have bel : ∀ c1 t1 c2 t2, Below w.heap.size w ((w.alloc (.cells c1 t1)).alloc (.cells c2 t2)) := fun _ _ _ _ => ((Below.refl _ _).alloc (Nat.le_refl _) _).alloc (by simp) _
 obtain ⟨W2, hW2⟩ : ∃ W2, W2 = (w.alloc (.cells #[.int .i64 2, .string ty, .int .u64 bits, .int .u64 imag, .string text, .slice na names.length nc, .slice pa parts.length pc, .int .i64 hook] 29)).alloc (.cells #[.int .i64 2, .string ty, .int .i64 hook] 147) := ⟨_, rfl⟩
 have f0 : ∀ x : Cl W2, x.w.cell? ⟨w.heap.size, 0, none⟩ = some (.int .i64 2) := fun x => x.cell (by rw [hW2]; simp)
 have f2 : ∀ x : Cl W2, x.w.cell? ⟨w.heap.size, 2, none⟩ = some (.int .u64 bits) := fun x => x.cell (by rw [hW2]; simp)
 have g0 : ∀ x : Cl W2, x.w.cell? ⟨w.heap.size + 1, 0, none⟩ = some (.int .i64 2) := fun x => x.cell (by rw [hW2]; simp)
 have g1 : ∀ x : Cl W2, x.w.cell? ⟨w.heap.size + 1, 1, none⟩ = some (.string ty) := fun x => x.cell (by rw [hW2]; simp)
 have g2 : ∀ x : Cl W2, x.w.cell? ⟨w.heap.size + 1, 2, none⟩ = some (.int .i64 hook) := fun x => x.cell (by rw [hW2]; simp)
 have hbW : Below w.heap.size w W2 := by rw [hW2]; exact bel _ _ _ _
 go_enter Tryz.func75, Tryz.ntmps75
 go_wp2
 rw [← hW2]
 refine wp_region_above W2 (Below.refl _ _) (by kernel_rfl) (by kernel_rfl) ?_
 intro hCl
 repeat (go_big_quiet_step ((first | (go_at_call 96; exact Cl.call_same (sbits_2 _ _ hb0 hb1)) | exact rfl)))
 refine wpQuiet_nil ?_
 intro _ hw'
 obtain ⟨y, hx⟩ := hw'
 subst hx
 go_wp2
 go_ret
 exact ⟨rfl, hbW.trans (y.below.mono hbW.size)⟩
set_option maxRecDepth 1000000 in
set_option maxHeartbeats 4000000 in
theorem made_3 (d : D) (na pa : Option Addr) (nc pc : Nat) (w : World) (hk : d.kind = 3) (hb0 : 0 ≤ d.bits) (hb1 : d.bits ≤ 18446744073709551615) (hi0 : 0 ≤ d.imag) (hi1 : d.imag ≤ 18446744073709551615) :
  Calls Tryz.prog 75 #[DV d (.slice na d.names.length nc) (.slice pa d.parts.length pc)] w fun e w' => e = .returned (mdV d) ∧ Below w.heap.size w w' := by
 obtain ⟨kind, ty, bits, imag, text, names, parts, hook⟩ := d
 simp only at hk hb0 hb1 hi0 hi1 ⊢
 subst hk
 have bel : ∀ c1 t1 c2 t2, Below w.heap.size w ((w.alloc (.cells c1 t1)).alloc (.cells c2 t2)) := fun _ _ _ _ => ((Below.refl _ _).alloc (Nat.le_refl _) _).alloc (by simp) _
 obtain ⟨W2, hW2⟩ : ∃ W2, W2 = (w.alloc (.cells #[.int .i64 3, .string ty, .int .u64 bits, .int .u64 imag, .string text, .slice na names.length nc, .slice pa parts.length pc, .int .i64 hook] 29)).alloc (.cells #[.int .i64 3, .string ty, .int .i64 hook] 147) := ⟨_, rfl⟩
 have f0 : ∀ x : Cl W2, x.w.cell? ⟨w.heap.size, 0, none⟩ = some (.int .i64 3) := fun x => x.cell (by rw [hW2]; simp)
 have f2 : ∀ x : Cl W2, x.w.cell? ⟨w.heap.size, 2, none⟩ = some (.int .u64 bits) := fun x => x.cell (by rw [hW2]; simp)
 have g0 : ∀ x : Cl W2, x.w.cell? ⟨w.heap.size + 1, 0, none⟩ = some (.int .i64 3) := fun x => x.cell (by rw [hW2]; simp)
 have g1 : ∀ x : Cl W2, x.w.cell? ⟨w.heap.size + 1, 1, none⟩ = some (.string ty) := fun x => x.cell (by rw [hW2]; simp)
 have g2 : ∀ x : Cl W2, x.w.cell? ⟨w.heap.size + 1, 2, none⟩ = some (.int .i64 hook) := fun x => x.cell (by rw [hW2]; simp)
 have hbW : Below w.heap.size w W2 := by rw [hW2]; exact bel _ _ _ _
 go_enter Tryz.func75, Tryz.ntmps75
 go_wp2
 rw [← hW2]
 refine wp_region_above W2 (Below.refl _ _) (by kernel_rfl) (by kernel_rfl) ?_
 intro hCl
 repeat (go_big_quiet_step ((first | (go_at_call 96; exact Cl.call_same (sbits_3 _ _ hb0 hb1)) | exact rfl)))
 refine wpQuiet_nil ?_
 intro _ hw'
 obtain ⟨y, hx⟩ := hw'
 subst hx
 go_wp2
 go_ret
 exact ⟨rfl, hbW.trans (y.below.mono hbW.size)⟩
set_option maxRecDepth 1000000 in
set_option maxHeartbeats 4000000 in
theorem made_4 (d : D) (na pa : Option Addr) (nc pc : Nat) (w : World) (hk : d.kind = 4) (hb0 : 0 ≤ d.bits) (hb1 : d.bits ≤ 18446744073709551615) (hi0 : 0 ≤ d.imag) (hi1 : d.imag ≤ 18446744073709551615) :
  Calls Tryz.prog 75 #[DV d (.slice na d.names.length nc) (.slice pa d.parts.length pc)] w fun e w' => e = .returned (mdV d) ∧ Below w.heap.size w w' := by
 obtain ⟨kind, ty, bits, imag, text, names, parts, hook⟩ := d
 simp only at hk hb0 hb1 hi0 hi1 ⊢
 subst hk
 have bel : ∀ c1 t1 c2 t2, Below w.heap.size w ((w.alloc (.cells c1 t1)).alloc (.cells c2 t2)) := fun _ _ _ _ => ((Below.refl _ _).alloc (Nat.le_refl _) _).alloc (by simp) _
 obtain ⟨W2, hW2⟩ : ∃ W2, W2 = (w.alloc (.cells #[.int .i64 4, .string ty, .int .u64 bits, .int .u64 imag, .string text, .slice na names.length nc, .slice pa parts.length pc, .int .i64 hook] 29)).alloc (.cells #[.int .i64 4, .string ty, .int .i64 hook] 147) := ⟨_, rfl⟩
 have f0 : ∀ x : Cl W2, x.w.cell? ⟨w.heap.size, 0, none⟩ = some (.int .i64 4) := fun x => x.cell (by rw [hW2]; simp)
 have f2 : ∀ x : Cl W2, x.w.cell? ⟨w.heap.size, 2, none⟩ = some (.int .u64 bits) := fun x => x.cell (by rw [hW2]; simp)
 have g0 : ∀ x : Cl W2, x.w.cell? ⟨w.heap.size + 1, 0, none⟩ = some (.int .i64 4) := fun x => x.cell (by rw [hW2]; simp)
 have g1 : ∀ x : Cl W2, x.w.cell? ⟨w.heap.size + 1, 1, none⟩ = some (.string ty) := fun x => x.cell (by rw [hW2]; simp)
 have g2 : ∀ x : Cl W2, x.w.cell? ⟨w.heap.size + 1, 2, none⟩ = some (.int .i64 hook) := fun x => x.cell (by rw [hW2]; simp)
 have hbW : Below w.heap.size w W2 := by rw [hW2]; exact bel _ _ _ _
 go_enter Tryz.func75, Tryz.ntmps75
 go_wp2
 rw [← hW2]
 refine wp_region_above W2 (Below.refl _ _) (by kernel_rfl) (by kernel_rfl) ?_
 intro hCl
 repeat (go_big_quiet_step ((first | (go_at_call 96; exact Cl.call_same (sbits_4 _ _ hb0 hb1)) | exact rfl)))
 refine wpQuiet_nil ?_
 intro _ hw'
 obtain ⟨y, hx⟩ := hw'
 subst hx
 go_wp2
 go_ret
 exact ⟨rfl, hbW.trans (y.below.mono hbW.size)⟩
set_option maxRecDepth 1000000 in
set_option maxHeartbeats 4000000 in
theorem made_5 (d : D) (na pa : Option Addr) (nc pc : Nat) (w : World) (hk : d.kind = 5) (hb0 : 0 ≤ d.bits) (hb1 : d.bits ≤ 18446744073709551615) (hi0 : 0 ≤ d.imag) (hi1 : d.imag ≤ 18446744073709551615) :
  Calls Tryz.prog 75 #[DV d (.slice na d.names.length nc) (.slice pa d.parts.length pc)] w fun e w' => e = .returned (mdV d) ∧ Below w.heap.size w w' := by
 obtain ⟨kind, ty, bits, imag, text, names, parts, hook⟩ := d
 simp only at hk hb0 hb1 hi0 hi1 ⊢
 subst hk
 have bel : ∀ c1 t1 c2 t2, Below w.heap.size w ((w.alloc (.cells c1 t1)).alloc (.cells c2 t2)) := fun _ _ _ _ => ((Below.refl _ _).alloc (Nat.le_refl _) _).alloc (by simp) _
 obtain ⟨W2, hW2⟩ : ∃ W2, W2 = (w.alloc (.cells #[.int .i64 5, .string ty, .int .u64 bits, .int .u64 imag, .string text, .slice na names.length nc, .slice pa parts.length pc, .int .i64 hook] 29)).alloc (.cells #[.int .i64 5, .string ty, .int .i64 hook] 147) := ⟨_, rfl⟩
 have f0 : ∀ x : Cl W2, x.w.cell? ⟨w.heap.size, 0, none⟩ = some (.int .i64 5) := fun x => x.cell (by rw [hW2]; simp)
 have f2 : ∀ x : Cl W2, x.w.cell? ⟨w.heap.size, 2, none⟩ = some (.int .u64 bits) := fun x => x.cell (by rw [hW2]; simp)
 have g0 : ∀ x : Cl W2, x.w.cell? ⟨w.heap.size + 1, 0, none⟩ = some (.int .i64 5) := fun x => x.cell (by rw [hW2]; simp)
 have g1 : ∀ x : Cl W2, x.w.cell? ⟨w.heap.size + 1, 1, none⟩ = some (.string ty) := fun x => x.cell (by rw [hW2]; simp)
 have g2 : ∀ x : Cl W2, x.w.cell? ⟨w.heap.size + 1, 2, none⟩ = some (.int .i64 hook) := fun x => x.cell (by rw [hW2]; simp)
 have hbW : Below w.heap.size w W2 := by rw [hW2]; exact bel _ _ _ _
 go_enter Tryz.func75, Tryz.ntmps75
 go_wp2
 rw [← hW2]
 refine wp_region_above W2 (Below.refl _ _) (by kernel_rfl) (by kernel_rfl) ?_
 intro hCl
 repeat (go_big_quiet_step ((first | (go_at_call 96; exact Cl.call_same (sbits_5 _ _ hb0 hb1)) | exact rfl)))
 refine wpQuiet_nil ?_
 intro _ hw'
 obtain ⟨y, hx⟩ := hw'
 subst hx
 go_wp2
 go_ret
 exact ⟨rfl, hbW.trans (y.below.mono hbW.size)⟩
set_option maxRecDepth 1000000 in
set_option maxHeartbeats 4000000 in
theorem made_6 (d : D) (na pa : Option Addr) (nc pc : Nat) (w : World) (hk : d.kind = 6) (hb0 : 0 ≤ d.bits) (hb1 : d.bits ≤ 18446744073709551615) (hi0 : 0 ≤ d.imag) (hi1 : d.imag ≤ 18446744073709551615) :
  Calls Tryz.prog 75 #[DV d (.slice na d.names.length nc) (.slice pa d.parts.length pc)] w fun e w' => e = .returned (mdV d) ∧ Below w.heap.size w w' := by
 obtain ⟨kind, ty, bits, imag, text, names, parts, hook⟩ := d
 simp only at hk hb0 hb1 hi0 hi1 ⊢
 subst hk
 have bel : ∀ c1 t1 c2 t2, Below w.heap.size w ((w.alloc (.cells c1 t1)).alloc (.cells c2 t2)) := fun _ _ _ _ => ((Below.refl _ _).alloc (Nat.le_refl _) _).alloc (by simp) _
 obtain ⟨W2, hW2⟩ : ∃ W2, W2 = (w.alloc (.cells #[.int .i64 6, .string ty, .int .u64 bits, .int .u64 imag, .string text, .slice na names.length nc, .slice pa parts.length pc, .int .i64 hook] 29)).alloc (.cells #[.int .i64 6, .string ty, .int .i64 hook] 147) := ⟨_, rfl⟩
 have f0 : ∀ x : Cl W2, x.w.cell? ⟨w.heap.size, 0, none⟩ = some (.int .i64 6) := fun x => x.cell (by rw [hW2]; simp)
 have f2 : ∀ x : Cl W2, x.w.cell? ⟨w.heap.size, 2, none⟩ = some (.int .u64 bits) := fun x => x.cell (by rw [hW2]; simp)
 have g0 : ∀ x : Cl W2, x.w.cell? ⟨w.heap.size + 1, 0, none⟩ = some (.int .i64 6) := fun x => x.cell (by rw [hW2]; simp)
 have g1 : ∀ x : Cl W2, x.w.cell? ⟨w.heap.size + 1, 1, none⟩ = some (.string ty) := fun x => x.cell (by rw [hW2]; simp)
 have g2 : ∀ x : Cl W2, x.w.cell? ⟨w.heap.size + 1, 2, none⟩ = some (.int .i64 hook) := fun x => x.cell (by rw [hW2]; simp)
 have hbW : Below w.heap.size w W2 := by rw [hW2]; exact bel _ _ _ _
 go_enter Tryz.func75, Tryz.ntmps75
 go_wp2
 rw [← hW2]
 refine wp_region_above W2 (Below.refl _ _) (by kernel_rfl) (by kernel_rfl) ?_
 intro hCl
 repeat (go_big_quiet_step ((first | (go_at_call 96; exact Cl.call_same (sbits_6 _ _ hb0 hb1)) | exact rfl)))
 refine wpQuiet_nil ?_
 intro _ hw'
 obtain ⟨y, hx⟩ := hw'
 subst hx
 go_wp2
 go_ret
 exact ⟨rfl, hbW.trans (y.below.mono hbW.size)⟩
set_option maxRecDepth 1000000 in
set_option maxHeartbeats 4000000 in
theorem made_7 (d : D) (na pa : Option Addr) (nc pc : Nat) (w : World) (hk : d.kind = 7) (hb0 : 0 ≤ d.bits) (hb1 : d.bits ≤ 18446744073709551615) (hi0 : 0 ≤ d.imag) (hi1 : d.imag ≤ 18446744073709551615) :
  Calls Tryz.prog 75 #[DV d (.slice na d.names.length nc) (.slice pa d.parts.length pc)] w fun e w' => e = .returned (mdV d) ∧ Below w.heap.size w w' := by
 obtain ⟨kind, ty, bits, imag, text, names, parts, hook⟩ := d
 simp only at hk hb0 hb1 hi0 hi1 ⊢
 subst hk
 have bel : ∀ c1 t1 c2 t2, Below w.heap.size w ((w.alloc (.cells c1 t1)).alloc (.cells c2 t2)) := fun _ _ _ _ => ((Below.refl _ _).alloc (Nat.le_refl _) _).alloc (by simp) _
 obtain ⟨W2, hW2⟩ : ∃ W2, W2 = (w.alloc (.cells #[.int .i64 7, .string ty, .int .u64 bits, .int .u64 imag, .string text, .slice na names.length nc, .slice pa parts.length pc, .int .i64 hook] 29)).alloc (.cells #[.int .i64 7, .string ty, .int .i64 hook] 147) := ⟨_, rfl⟩
 have f0 : ∀ x : Cl W2, x.w.cell? ⟨w.heap.size, 0, none⟩ = some (.int .i64 7) := fun x => x.cell (by rw [hW2]; simp)
 have f2 : ∀ x : Cl W2, x.w.cell? ⟨w.heap.size, 2, none⟩ = some (.int .u64 bits) := fun x => x.cell (by rw [hW2]; simp)
 have g0 : ∀ x : Cl W2, x.w.cell? ⟨w.heap.size + 1, 0, none⟩ = some (.int .i64 7) := fun x => x.cell (by rw [hW2]; simp)
 have g1 : ∀ x : Cl W2, x.w.cell? ⟨w.heap.size + 1, 1, none⟩ = some (.string ty) := fun x => x.cell (by rw [hW2]; simp)
 have g2 : ∀ x : Cl W2, x.w.cell? ⟨w.heap.size + 1, 2, none⟩ = some (.int .i64 hook) := fun x => x.cell (by rw [hW2]; simp)
 have hbW : Below w.heap.size w W2 := by rw [hW2]; exact bel _ _ _ _
 go_enter Tryz.func75, Tryz.ntmps75
 go_wp2
 rw [← hW2]
 refine wp_region_above W2 (Below.refl _ _) (by kernel_rfl) (by kernel_rfl) ?_
 intro hCl
 repeat (go_big_quiet_step ((first | (go_at_call 97; exact Cl.call_same (ubits_7 _ _ hb0 hb1)) | exact rfl)))
 refine wpQuiet_nil ?_
 intro _ hw'
 obtain ⟨y, hx⟩ := hw'
 subst hx
 go_wp2
 go_ret
 exact ⟨rfl, hbW.trans (y.below.mono hbW.size)⟩
set_option maxRecDepth 1000000 in
set_option maxHeartbeats 4000000 in
theorem made_8 (d : D) (na pa : Option Addr) (nc pc : Nat) (w : World) (hk : d.kind = 8) (hb0 : 0 ≤ d.bits) (hb1 : d.bits ≤ 18446744073709551615) (hi0 : 0 ≤ d.imag) (hi1 : d.imag ≤ 18446744073709551615) :
  Calls Tryz.prog 75 #[DV d (.slice na d.names.length nc) (.slice pa d.parts.length pc)] w fun e w' => e = .returned (mdV d) ∧ Below w.heap.size w w' := by
 obtain ⟨kind, ty, bits, imag, text, names, parts, hook⟩ := d
 simp only at hk hb0 hb1 hi0 hi1 ⊢
 subst hk
 have bel : ∀ c1 t1 c2 t2, Below w.heap.size w ((w.alloc (.cells c1 t1)).alloc (.cells c2 t2)) := fun _ _ _ _ => ((Below.refl _ _).alloc (Nat.le_refl _) _).alloc (by simp) _
 obtain ⟨W2, hW2⟩ : ∃ W2, W2 = (w.alloc (.cells #[.int .i64 8, .string ty, .int .u64 bits, .int .u64 imag, .string text, .slice na names.length nc, .slice pa parts.length pc, .int .i64 hook] 29)).alloc (.cells #[.int .i64 8, .string ty, .int .i64 hook] 147) := ⟨_, rfl⟩
 have f0 : ∀ x : Cl W2, x.w.cell? ⟨w.heap.size, 0, none⟩ = some (.int .i64 8) := fun x => x.cell (by rw [hW2]; simp)
 have f2 : ∀ x : Cl W2, x.w.cell? ⟨w.heap.size, 2, none⟩ = some (.int .u64 bits) := fun x => x.cell (by rw [hW2]; simp)
 have g0 : ∀ x : Cl W2, x.w.cell? ⟨w.heap.size + 1, 0, none⟩ = some (.int .i64 8) := fun x => x.cell (by rw [hW2]; simp)
 have g1 : ∀ x : Cl W2, x.w.cell? ⟨w.heap.size + 1, 1, none⟩ = some (.string ty) := fun x => x.cell (by rw [hW2]; simp)
 have g2 : ∀ x : Cl W2, x.w.cell? ⟨w.heap.size + 1, 2, none⟩ = some (.int .i64 hook) := fun x => x.cell (by rw [hW2]; simp)
 have hbW : Below w.heap.size w W2 := by rw [hW2]; exact bel _ _ _ _
 go_enter Tryz.func75, Tryz.ntmps75
 go_wp2
 rw [← hW2]
 refine wp_region_above W2 (Below.refl _ _) (by kernel_rfl) (by kernel_rfl) ?_
 intro hCl
 repeat (go_big_quiet_step ((first | (go_at_call 97; exact Cl.call_same (ubits_8 _ _ hb0 hb1)) | exact rfl)))
 refine wpQuiet_nil ?_
 intro _ hw'
 obtain ⟨y, hx⟩ := hw'
 subst hx
 go_wp2
 go_ret
 exact ⟨rfl, hbW.trans (y.below.mono hbW.size)⟩
set_option maxRecDepth 1000000 in
set_option maxHeartbeats 4000000 in
theorem made_9 (d : D) (na pa : Option Addr) (nc pc : Nat) (w : World) (hk : d.kind = 9) (hb0 : 0 ≤ d.bits) (hb1 : d.bits ≤ 18446744073709551615) (hi0 : 0 ≤ d.imag) (hi1 : d.imag ≤ 18446744073709551615) :
  Calls Tryz.prog 75 #[DV d (.slice na d.names.length nc) (.slice pa d.parts.length pc)] w fun e w' => e = .returned (mdV d) ∧ Below w.heap.size w w' := by
 obtain ⟨kind, ty, bits, imag, text, names, parts, hook⟩ := d
 simp only at hk hb0 hb1 hi0 hi1 ⊢
 subst hk
 have bel : ∀ c1 t1 c2 t2, Below w.heap.size w ((w.alloc (.cells c1 t1)).alloc (.cells c2 t2)) := fun _ _ _ _ => ((Below.refl _ _).alloc (Nat.le_refl _) _).alloc (by simp) _
 obtain ⟨W2, hW2⟩ : ∃ W2, W2 = (w.alloc (.cells #[.int .i64 9, .string ty, .int .u64 bits, .int .u64 imag, .string text, .slice na names.length nc, .slice pa parts.length pc, .int .i64 hook] 29)).alloc (.cells #[.int .i64 9, .string ty, .int .i64 hook] 147) := ⟨_, rfl⟩
 have f0 : ∀ x : Cl W2, x.w.cell? ⟨w.heap.size, 0, none⟩ = some (.int .i64 9) := fun x => x.cell (by rw [hW2]; simp)
 have f2 : ∀ x : Cl W2, x.w.cell? ⟨w.heap.size, 2, none⟩ = some (.int .u64 bits) := fun x => x.cell (by rw [hW2]; simp)
 have g0 : ∀ x : Cl W2, x.w.cell? ⟨w.heap.size + 1, 0, none⟩ = some (.int .i64 9) := fun x => x.cell (by rw [hW2]; simp)
 have g1 : ∀ x : Cl W2, x.w.cell? ⟨w.heap.size + 1, 1, none⟩ = some (.string ty) := fun x => x.cell (by rw [hW2]; simp)
 have g2 : ∀ x : Cl W2, x.w.cell? ⟨w.heap.size + 1, 2, none⟩ = some (.int .i64 hook) := fun x => x.cell (by rw [hW2]; simp)
 have hbW : Below w.heap.size w W2 := by rw [hW2]; exact bel _ _ _ _
 go_enter Tryz.func75, Tryz.ntmps75
 go_wp2
 rw [← hW2]
 refine wp_region_above W2 (Below.refl _ _) (by kernel_rfl) (by kernel_rfl) ?_
 intro hCl
 repeat (go_big_quiet_step ((first | (go_at_call 97; exact Cl.call_same (ubits_9 _ _ hb0 hb1)) | exact rfl)))
 refine wpQuiet_nil ?_
 intro _ hw'
 obtain ⟨y, hx⟩ := hw'
 subst hx
 go_wp2
 go_ret
 exact ⟨rfl, hbW.trans (y.below.mono hbW.size)⟩
set_option maxRecDepth 1000000 in
set_option maxHeartbeats 4000000 in
theorem made_10 (d : D) (na pa : Option Addr) (nc pc : Nat) (w : World) (hk : d.kind = 10) (hb0 : 0 ≤ d.bits) (hb1 : d.bits ≤ 18446744073709551615) (hi0 : 0 ≤ d.imag) (hi1 : d.imag ≤ 18446744073709551615) :
  Calls Tryz.prog 75 #[DV d (.slice na d.names.length nc) (.slice pa d.parts.length pc)] w fun e w' => e = .returned (mdV d) ∧ Below w.heap.size w w' := by
 obtain ⟨kind, ty, bits, imag, text, names, parts, hook⟩ := d
 simp only at hk hb0 hb1 hi0 hi1 ⊢
 subst hk
 have bel : ∀ c1 t1 c2 t2, Below w.heap.size w ((w.alloc (.cells c1 t1)).alloc (.cells c2 t2)) := fun _ _ _ _ => ((Below.refl _ _).alloc (Nat.le_refl _) _).alloc (by simp) _
 obtain ⟨W2, hW2⟩ : ∃ W2, W2 = (w.alloc (.cells #[.int .i64 10, .string ty, .int .u64 bits, .int .u64 imag, .string text, .slice na names.length nc, .slice pa parts.length pc, .int .i64 hook] 29)).alloc (.cells #[.int .i64 10, .string ty, .int .i64 hook] 147) := ⟨_, rfl⟩
 have f0 : ∀ x : Cl W2, x.w.cell? ⟨w.heap.size, 0, none⟩ = some (.int .i64 10) := fun x => x.cell (by rw [hW2]; simp)
 have f2 : ∀ x : Cl W2, x.w.cell? ⟨w.heap.size, 2, none⟩ = some (.int .u64 bits) := fun x => x.cell (by rw [hW2]; simp)
 have g0 : ∀ x : Cl W2, x.w.cell? ⟨w.heap.size + 1, 0, none⟩ = some (.int .i64 10) := fun x => x.cell (by rw [hW2]; simp)
 have g1 : ∀ x : Cl W2, x.w.cell? ⟨w.heap.size + 1, 1, none⟩ = some (.string ty) := fun x => x.cell (by rw [hW2]; simp)
 have g2 : ∀ x : Cl W2, x.w.cell? ⟨w.heap.size + 1, 2, none⟩ = some (.int .i64 hook) := fun x => x.cell (by rw [hW2]; simp)
 have hbW : Below w.heap.size w W2 := by rw [hW2]; exact bel _ _ _ _
 go_enter Tryz.func75, Tryz.ntmps75
 go_wp2
 rw [← hW2]
 refine wp_region_above W2 (Below.refl _ _) (by kernel_rfl) (by kernel_rfl) ?_
 intro hCl
 repeat (go_big_quiet_step ((first | (go_at_call 97; exact Cl.call_same (ubits_10 _ _ hb0 hb1)) | exact rfl)))
 refine wpQuiet_nil ?_
 intro _ hw'
 obtain ⟨y, hx⟩ := hw'
 subst hx
 go_wp2
 go_ret
 exact ⟨rfl, hbW.trans (y.below.mono hbW.size)⟩
set_option maxRecDepth 1000000 in
set_option maxHeartbeats 4000000 in
theorem made_11 (d : D) (na pa : Option Addr) (nc pc : Nat) (w : World) (hk : d.kind = 11) (hb0 : 0 ≤ d.bits) (hb1 : d.bits ≤ 18446744073709551615) (hi0 : 0 ≤ d.imag) (hi1 : d.imag ≤ 18446744073709551615) :
  Calls Tryz.prog 75 #[DV d (.slice na d.names.length nc) (.slice pa d.parts.length pc)] w fun e w' => e = .returned (mdV d) ∧ Below w.heap.size w w' := by
 obtain ⟨kind, ty, bits, imag, text, names, parts, hook⟩ := d
 simp only at hk hb0 hb1 hi0 hi1 ⊢
 subst hk
 have bel : ∀ c1 t1 c2 t2, Below w.heap.size w ((w.alloc (.cells c1 t1)).alloc (.cells c2 t2)) := fun _ _ _ _ => ((Below.refl _ _).alloc (Nat.le_refl _) _).alloc (by simp) _
 obtain ⟨W2, hW2⟩ : ∃ W2, W2 = (w.alloc (.cells #[.int .i64 11, .string ty, .int .u64 bits, .int .u64 imag, .string text, .slice na names.length nc, .slice pa parts.length pc, .int .i64 hook] 29)).alloc (.cells #[.int .i64 11, .string ty, .int .i64 hook] 147) := ⟨_, rfl⟩
 have f0 : ∀ x : Cl W2, x.w.cell? ⟨w.heap.size, 0, none⟩ = some (.int .i64 11) := fun x => x.cell (by rw [hW2]; simp)
 have f2 : ∀ x : Cl W2, x.w.cell? ⟨w.heap.size, 2, none⟩ = some (.int .u64 bits) := fun x => x.cell (by rw [hW2]; simp)
 have g0 : ∀ x : Cl W2, x.w.cell? ⟨w.heap.size + 1, 0, none⟩ = some (.int .i64 11) := fun x => x.cell (by rw [hW2]; simp)
 have g1 : ∀ x : Cl W2, x.w.cell? ⟨w.heap.size + 1, 1, none⟩ = some (.string ty) := fun x => x.cell (by rw [hW2]; simp)
 have g2 : ∀ x : Cl W2, x.w.cell? ⟨w.heap.size + 1, 2, none⟩ = some (.int .i64 hook) := fun x => x.cell (by rw [hW2]; simp)
 have hbW : Below w.heap.size w W2 := by rw [hW2]; exact bel _ _ _ _
 go_enter Tryz.func75, Tryz.ntmps75
 go_wp2
 rw [← hW2]
 refine wp_region_above W2 (Below.refl _ _) (by kernel_rfl) (by kernel_rfl) ?_
 intro hCl
 repeat (go_big_quiet_step ((first | (go_at_call 97; exact Cl.call_same (ubits_11 _ _ hb0 hb1)) | exact rfl)))
 refine wpQuiet_nil ?_
 intro _ hw'
 obtain ⟨y, hx⟩ := hw'
 subst hx
 go_wp2
 go_ret
 exact ⟨rfl, hbW.trans (y.below.mono hbW.size)⟩
set_option maxRecDepth 1000000 in
set_option maxHeartbeats 4000000 in
theorem made_12 (d : D) (na pa : Option Addr) (nc pc : Nat) (w : World) (hk : d.kind = 12) (hb0 : 0 ≤ d.bits) (hb1 : d.bits ≤ 18446744073709551615) (hi0 : 0 ≤ d.imag) (hi1 : d.imag ≤ 18446744073709551615) :
  Calls Tryz.prog 75 #[DV d (.slice na d.names.length nc) (.slice pa d.parts.length pc)] w fun e w' => e = .returned (mdV d) ∧ Below w.heap.size w w' := by
 obtain ⟨kind, ty, bits, imag, text, names, parts, hook⟩ := d
 simp only at hk hb0 hb1 hi0 hi1 ⊢
 subst hk
 have bel : ∀ c1 t1 c2 t2, Below w.heap.size w ((w.alloc (.cells c1 t1)).alloc (.cells c2 t2)) := fun _ _ _ _ => ((Below.refl _ _).alloc (Nat.le_refl _) _).alloc (by simp) _
 go_enter Tryz.func75, Tryz.ntmps75
 go_wp2
 go_ret
 exact ⟨rfl, bel _ _ _ _⟩
set_option maxRecDepth 1000000 in
set_option maxHeartbeats 4000000 in
theorem made_13 (d : D) (na pa : Option Addr) (nc pc : Nat) (w : World) (hk : d.kind = 13) (hb0 : 0 ≤ d.bits) (hb1 : d.bits ≤ 18446744073709551615) (hi0 : 0 ≤ d.imag) (hi1 : d.imag ≤ 18446744073709551615) :
  Calls Tryz.prog 75 #[DV d (.slice na d.names.length nc) (.slice pa d.parts.length pc)] w fun e w' => e = .returned (mdV d) ∧ Below w.heap.size w w' := by
 obtain ⟨kind, ty, bits, imag, text, names, parts, hook⟩ := d
 simp only at hk hb0 hb1 hi0 hi1 ⊢
 subst hk
 have bel : ∀ c1 t1 c2 t2, Below w.heap.size w ((w.alloc (.cells c1 t1)).alloc (.cells c2 t2)) := fun _ _ _ _ => ((Below.refl _ _).alloc (Nat.le_refl _) _).alloc (by simp) _
 go_enter Tryz.func75, Tryz.ntmps75
 go_wp2
 go_ret
 exact ⟨rfl, bel _ _ _ _⟩
set_option maxRecDepth 1000000 in
set_option maxHeartbeats 4000000 in
theorem made_14 (d : D) (na pa : Option Addr) (nc pc : Nat) (w : World) (hk : d.kind = 14) (hb0 : 0 ≤ d.bits) (hb1 : d.bits ≤ 18446744073709551615) (hi0 : 0 ≤ d.imag) (hi1 : d.imag ≤ 18446744073709551615) :
  Calls Tryz.prog 75 #[DV d (.slice na d.names.length nc) (.slice pa d.parts.length pc)] w fun e w' => e = .returned (mdV d) ∧ Below w.heap.size w w' := by
 obtain ⟨kind, ty, bits, imag, text, names, parts, hook⟩ := d
 simp only at hk hb0 hb1 hi0 hi1 ⊢
 subst hk
 have bel : ∀ c1 t1 c2 t2, Below w.heap.size w ((w.alloc (.cells c1 t1)).alloc (.cells c2 t2)) := fun _ _ _ _ => ((Below.refl _ _).alloc (Nat.le_refl _) _).alloc (by simp) _
 go_enter Tryz.func75, Tryz.ntmps75
 go_wp2
 go_ret
 exact ⟨rfl, bel _ _ _ _⟩
set_option maxRecDepth 1000000 in
set_option maxHeartbeats 4000000 in
theorem made_15 (d : D) (na pa : Option Addr) (nc pc : Nat) (w : World) (hk : d.kind = 15) (hb0 : 0 ≤ d.bits) (hb1 : d.bits ≤ 18446744073709551615) (hi0 : 0 ≤ d.imag) (hi1 : d.imag ≤ 18446744073709551615) :
  Calls Tryz.prog 75 #[DV d (.slice na d.names.length nc) (.slice pa d.parts.length pc)] w fun e w' => e = .returned (mdV d) ∧ Below w.heap.size w w' := by
 obtain ⟨kind, ty, bits, imag, text, names, parts, hook⟩ := d
 simp only at hk hb0 hb1 hi0 hi1 ⊢
 subst hk
 have bel : ∀ c1 t1 c2 t2, Below w.heap.size w ((w.alloc (.cells c1 t1)).alloc (.cells c2 t2)) := fun _ _ _ _ => ((Below.refl _ _).alloc (Nat.le_refl _) _).alloc (by simp) _
 go_enter Tryz.func75, Tryz.ntmps75
 go_wp2
 go_ret
 exact ⟨rfl, bel _ _ _ _⟩
set_option maxRecDepth 1000000 in
set_option maxHeartbeats 4000000 in
theorem made_16 (d : D) (na pa : Option Addr) (nc pc : Nat) (w : World) (hk : d.kind = 16) (hb0 : 0 ≤ d.bits) (hb1 : d.bits ≤ 18446744073709551615) (hi0 : 0 ≤ d.imag) (hi1 : d.imag ≤ 18446744073709551615) :
  Calls Tryz.prog 75 #[DV d (.slice na d.names.length nc) (.slice pa d.parts.length pc)] w fun e w' => e = .returned (mdV d) ∧ Below w.heap.size w w' := by
 obtain ⟨kind, ty, bits, imag, text, names, parts, hook⟩ := d
 simp only at hk hb0 hb1 hi0 hi1 ⊢
 subst hk
 have bel : ∀ c1 t1 c2 t2, Below w.heap.size w ((w.alloc (.cells c1 t1)).alloc (.cells c2 t2)) := fun _ _ _ _ => ((Below.refl _ _).alloc (Nat.le_refl _) _).alloc (by simp) _
 go_enter Tryz.func75, Tryz.ntmps75
 go_wp2
 go_ret
 exact ⟨rfl, bel _ _ _ _⟩
set_option maxRecDepth 1000000 in
set_option maxHeartbeats 4000000 in
theorem made_17 (d : D) (na pa : Option Addr) (nc pc : Nat) (w : World) (hk : d.kind = 17) (hb0 : 0 ≤ d.bits) (hb1 : d.bits ≤ 18446744073709551615) (hi0 : 0 ≤ d.imag) (hi1 : d.imag ≤ 18446744073709551615) :
  Calls Tryz.prog 75 #[DV d (.slice na d.names.length nc) (.slice pa d.parts.length pc)] w fun e w' => e = .returned (mdV d) ∧ Below w.heap.size w w' := by
 obtain ⟨kind, ty, bits, imag, text, names, parts, hook⟩ := d
 simp only at hk hb0 hb1 hi0 hi1 ⊢
 subst hk
 have bel : ∀ c1 t1 c2 t2, Below w.heap.size w ((w.alloc (.cells c1 t1)).alloc (.cells c2 t2)) := fun _ _ _ _ => ((Below.refl _ _).alloc (Nat.le_refl _) _).alloc (by simp) _
 go_enter Tryz.func75, Tryz.ntmps75
 go_wp2
 go_ret
 exact ⟨rfl, bel _ _ _ _⟩
theorem made_flat (d : D) (na pa : Option Addr) (nc pc : Nat) (w : World) (h0 : 0 ≤ d.kind) (h1 : d.kind ≤ 17) (hb0 : 0 ≤ d.bits) (hb1 : d.bits ≤ 18446744073709551615) (hi0 : 0 ≤ d.imag) (hi1 : d.imag ≤ 18446744073709551615) :
  Calls Tryz.prog 75 #[DV d (.slice na d.names.length nc) (.slice pa d.parts.length pc)] w fun e w' => e = .returned (mdV d) ∧ Below w.heap.size w w' := by
 have hk : d.kind = 0 ∨ d.kind = 1 ∨ d.kind = 2 ∨ d.kind = 3 ∨ d.kind = 4 ∨ d.kind = 5 ∨ d.kind = 6 ∨ d.kind = 7 ∨ d.kind = 8 ∨ d.kind = 9 ∨ d.kind = 10 ∨ d.kind = 11 ∨ d.kind = 12 ∨ d.kind = 13 ∨ d.kind = 14 ∨ d.kind = 15 ∨ d.kind = 16 ∨ d.kind = 17 := by omega
 rcases hk with hk | hk | hk | hk | hk | hk | hk | hk | hk | hk | hk | hk | hk | hk | hk | hk | hk | hk
 ·exact made_0 d na pa nc pc w hk hb0 hb1 hi0 hi1
 ·exact made_1 d na pa nc pc w hk hb0 hb1 hi0 hi1
 ·exact made_2 d na pa nc pc w hk hb0 hb1 hi0 hi1
 ·exact made_3 d na pa nc pc w hk hb0 hb1 hi0 hi1
 ·exact made_4 d na pa nc pc w hk hb0 hb1 hi0 hi1
 ·exact made_5 d na pa nc pc w hk hb0 hb1 hi0 hi1
 ·exact made_6 d na pa nc pc w hk hb0 hb1 hi0 hi1
 ·exact made_7 d na pa nc pc w hk hb0 hb1 hi0 hi1
 ·exact made_8 d na pa nc pc w hk hb0 hb1 hi0 hi1
 ·exact made_9 d na pa nc pc w hk hb0 hb1 hi0 hi1
 ·exact made_10 d na pa nc pc w hk hb0 hb1 hi0 hi1
 ·exact made_11 d na pa nc pc w hk hb0 hb1 hi0 hi1
 ·exact made_12 d na pa nc pc w hk hb0 hb1 hi0 hi1
 ·exact made_13 d na pa nc pc w hk hb0 hb1 hi0 hi1
 ·exact made_14 d na pa nc pc w hk hb0 hb1 hi0 hi1
 ·exact made_15 d na pa nc pc w hk hb0 hb1 hi0 hi1
 ·exact made_16 d na pa nc pc w hk hb0 hb1 hi0 hi1
 ·exact made_17 d na pa nc pc w hk hb0 hb1 hi0 hi1
end Go.Proofs.YtdlnmnipnkeabaaGreatDoor
