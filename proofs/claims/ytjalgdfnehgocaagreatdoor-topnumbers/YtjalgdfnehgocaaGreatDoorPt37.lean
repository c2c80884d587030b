/- UInts, UNumD, UNumT: these texts in one. -/
import Derived.Test.YtjalgdfnehgocaaGreatDoorPt35
import Derived.Test.YtjalgdfnehgocaaGreatDoorPt36
namespace Go.Proofs.YtjalgdfnehgocaaGreatDoor
open Go.RowKit
set_option linter.unusedVariables false
set_option linter.unusedSimpArgs false
abbrev DN (k b : Int) : Value := .agg #[.int .i64 k, .string ⟨#[]⟩, .int .u64 b, .int .u64 0, .string ⟨#[]⟩, .slice none 0 0, .slice none 0 0, .int .i64 0]
abbrev VS (k n : Int) : Value := .iface 194 (.agg #[.int .i64 k, .string ⟨#[]⟩, .int .i64 0, .int .i64 n])
abbrev VU (k n : Int) : Value := .iface 196 (.agg #[.int .i64 k, .string ⟨#[]⟩, .int .i64 0, .int .u64 n])
theorem chk_N (k b : Int) (h1 : 2 ≤ k) (h2 : k ≤ 11) : chk0 (D0 k b 0 0 ⟨#[]⟩ ⟨#[]⟩) = 0 := by
 have hk : k = 2 ∨ k = 3 ∨ k = 4 ∨ k = 5 ∨ k = 6 ∨ k = 7 ∨ k = 8 ∨ k = 9 ∨ k = 10 ∨ k = 11 := by omega
 rcases hk with rfl | rfl | rfl | rfl | rfl | rfl | rfl | rfl | rfl | rfl
 all_goals
  unfold chk0
  rw [pre0]
  simp [runV, ok1, ok2, ok3, ok4, fitsB, frmB, typedB, allB, sz_nil]
theorem md_S (k b : Int) (h1 : 2 ≤ k) (h2 : k ≤ 6) : mdV (D0 k b 0 0 ⟨#[]⟩ ⟨#[]⟩) = VS k (sgN k b) := by
 unfold mdV
 dsimp only
 rw [if_neg (by omega), if_pos ⟨h1, h2⟩]
theorem md_U (k b : Int) (h1 : 7 ≤ k) (h2 : k ≤ 11) : mdV (D0 k b 0 0 ⟨#[]⟩ ⟨#[]⟩) = VU k (unN k b) := by
 unfold mdV
 dsimp only
 rw [if_neg (by omega), if_neg (by omega), if_pos ⟨h1, h2⟩]
theorem sgN_rng (k b : Int) : -9223372036854775808 ≤ sgN k b ∧ sgN k b ≤ 9223372036854775807 := by
 have h1 := swr_in 256 b (by decide)
 have h2 := swr_in 65536 b (by decide)
 have h3 := swr_in 4294967296 b (by decide)
 have h4 := swr_in 18446744073709551616 b (by decide)
 unfold sgN
 repeat' split
 all_goals omega
theorem unN_rng (k b : Int) (h0 : 0 ≤ b) (h1 : b ≤ 18446744073709551615) : 0 ≤ unN k b ∧ unN k b ≤ 18446744073709551615 := by
 unfold unN
 repeat' split
 all_goals omega
theorem build_N (k b : Int) (h1 : 2 ≤ k) (h2 : k ≤ 11) (hb0 : 0 ≤ b) (hb1 : b ≤ 18446744073709551615) (W : World) : Calls Tryz.prog 102 #[DN k b] W fun e w' => e = .returned (.tuple #[mdV (D0 k b 0 0 ⟨#[]⟩ ⟨#[]⟩), .int .i64 0]) ∧ Below W.heap.size W w' :=
 build0 k b 0 0 ⟨#[]⟩ ⟨#[]⟩ W ⟨by constructor <;> dsimp only <;> omega, ⟨hb0, hb1⟩, by simp, by simp, Nat.zero_le _, Nat.zero_le _⟩ (by omega) (by omega) (chk_N k b h1 h2)
set_option maxRecDepth 1000000 in
theorem shape_S (k n : Int) (h1 : 2 ≤ k) (h2 : k ≤ 6) (hn : -9223372036854775808 ≤ n ∧ n ≤ 9223372036854775807) (w : World) :
  Calls Tryz.prog 175 #[VS k n] w fun e w' => e = .returned (.iface 280 (.int .i64 n)) ∧ Below w.heap.size w w' := by
 have hR := raw_flat (VS k n) k 0 (n % 18446744073709551616) 0 ⟨#[]⟩ ⟨#[]⟩ w fun W => rawof_signed k 0 ⟨#[]⟩ n W
 have hw : wrap64 (n % 18446744073709551616) = n := by unfold wrap64; omega
 have hk5 : k = 2 ∨ k = 3 ∨ k = 4 ∨ k = 5 ∨ k = 6 := by omega
 obtain ⟨m, hm⟩ : ∃ m, n % 18446744073709551616 = m := ⟨_, rfl⟩
 rw [hm] at hR hw
 clear hm hn h1 h2
 rcases hk5 with rfl | rfl | rfl | rfl | rfl
 all_goals
  go_enter Tryz.func175, Tryz.ntmps175
  go_wp2_with (go_at_call 185; refine hR.mono ?_; rintro e W2 ⟨rfl, b2⟩)
  go_ret
  exact ⟨by first | rfl | rw [hw], b2.alloc b2.size _⟩
theorem flat_S (k : Nat) (b : Int) (h1 : 2 ≤ k) (h2 : k ≤ 6) (hb0 : 0 ≤ b) (hb1 : b ≤ 18446744073709551615) : Flat (VS k (sgN k b)) (.int .i64 k) (.string ⟨#[]⟩) (.int .u64 b) (.int .u64 0) (.string ⟨#[]⟩) (.int .i64 0) k 0 280 (.int .i64 (sgN k b)) := by
 refine ⟨fun W => valueOf_of _ _ _ _ _ _ _ _ _ _ W (fun V => ?_) ⟨rfl, rfl, rfl, rfl, rfl, rfl, rfl, rfl⟩, fun W => markof_signed k 0 _ _ W, fun W => shape_S k _ (by omega) (by omega) (sgN_rng _ _) W⟩
 have hb := build_N k b (by omega) (by omega) hb0 hb1 V
 rw [md_S k b (by omega) (by omega)] at hb
 exact hb
theorem flat_U (k : Nat) (b : Int) (h1 : 7 ≤ k) (h2 : k ≤ 11) (hb0 : 0 ≤ b) (hb1 : b ≤ 18446744073709551615) : Flat (VU k (unN k b)) (.int .i64 k) (.string ⟨#[]⟩) (.int .u64 b) (.int .u64 0) (.string ⟨#[]⟩) (.int .i64 0) k 0 281 (.int .u64 (unN k b)) := by
 refine ⟨fun W => valueOf_of _ _ _ _ _ _ _ _ _ _ W (fun V => ?_) ⟨rfl, rfl, rfl, rfl, rfl, rfl, rfl, rfl⟩, fun W => markof_unsigned k 0 _ _ W, fun W => shape_raw (VU k (unN k b)) k (unN k b) 0 0 ⟨#[]⟩ _ _ (.inr (.inr (.inr (.inr (.inl ⟨by omega, by omega, rfl, rfl⟩))))) (unN_rng _ _ hb0 hb1) (fun V => raw_flat (VU k (unN k b)) k 0 (unN k b) 0 ⟨#[]⟩ ⟨#[]⟩ V fun V2 => rawof_unsigned k 0 ⟨#[]⟩ _ V2) W⟩
 have hb := build_N k b (by omega) (by omega) hb0 hb1 V
 rw [md_U k b (by omega) (by omega)] at hb
 exact hb
def unT (u : Nat) (f : Sq) : ByteArray := numS u u (signA (numQ f).p f.sp) (numQ f).p f.mi f.sh f.z f.wid f.prec (uVerb f.sh f.verb)
set_option maxRecDepth 1000000 in
set_option maxHeartbeats 2000000 in
theorem shaped_unsigned (f : Sq) (ask : Value) (ty : ByteArray) (depth : Int) (u : Nat) (w : World) (hE : Esc w) (hu : u < 18446744073709551616) :
  Calls Tryz.prog 178 #[WV f ask, .iface 281 (.int .u64 u), .string ty, .int .i64 depth] w fun e w' => e = .returned (.tuple #[.string (unT u f), .bool (numK (uVerb f.sh f.verb))]) ∧ Below w.heap.size w w' := by
 have t1 : ∀ w, (Instr.typeAssert (.iface 281 (.int .u64 u)) 20 279 true).run Tryz.prog w = .ok (.tuple #[.bool false, .bool false]) w := fun w => by kernel_rfl
 have t2 : ∀ w, (Instr.typeAssert (.iface 281 (.int .u64 u)) 20 280 true).run Tryz.prog w = .ok (.tuple #[.int .i64 0, .bool false]) w := fun w => by kernel_rfl
 have t3 : ∀ w, (Instr.typeAssert (.iface 281 (.int .u64 u)) 20 281 true).run Tryz.prog w = .ok (.tuple #[.int .u64 u, .bool true]) w := fun w => by kernel_rfl
 obtain ⟨W1, hW1⟩ : ∃ W1, W1 = w.alloc (.cells #[.bool f.p, .bool f.mi, .bool f.sh, .bool f.sp, .bool f.z, .int .i64 f.wid, .int .i64 f.prec, .int .i32 f.verb, ask] 232) := ⟨_, rfl⟩
 have b1 : Below w.heap.size w W1 := by rw [hW1]; exact (Below.refl _ _).alloc (Nat.le_refl _) _
 have hN := forNumbers_any f ask W1
 have hI := fun W (hE : Esc W) => iunsigned_any u (numQ f).p (numQ f).mi (numQ f).sh (numQ f).sp (numQ f).z (numQ f).wid (numQ f).prec (numQ f).verb W hE hu
 have e1 : numS u u (signA (numQ f).p (numQ f).sp) (numQ f).p (numQ f).mi (numQ f).sh (numQ f).z (numQ f).wid (numQ f).prec (uVerb (numQ f).sh (numQ f).verb) = unT u f := rfl
 have e2 : numK (uVerb (numQ f).sh (numQ f).verb) = numK (uVerb f.sh f.verb) := rfl
 simp only [e1, e2] at hI
 clear e1 e2
 go_enter Tryz.func178, Tryz.ntmps178
 go_upto_region 10 with fail
 rw [← hW1]
 have a1 : At9 W1 w.heap.size f ask := by
  rw [hW1]
  refine ⟨?_, ?_, ?_, ?_, ?_, ?_, ?_, ?_, ?_⟩
  all_goals simp [go_sem]
 clear hW1
 obtain ⟨q0, q1, q2, q3, q4, q5, q6, q7, q8⟩ := a1
 go_wp2_with (first
  | (go_at_call 205; refine hN.mono ?_; rintro e W2 ⟨rfl, b2⟩; have hE2 := (hE.below b1).below b2)
  | (go_at_call 206; refine (hI _ hE2).mono ?_; rintro e W3 ⟨rfl, b3⟩))
 go_ret2
 exact ⟨rfl, (b1.trans (b2.mono b1.size)).trans (b3.mono (by have := b1.size; have := b2.size; omega))⟩
def nmT (k : Nat) (b : Int) (f : Sq) : ByteArray := if k ≤ 6 then numT (sgN k b) f else unT (unN k b).toNat f
def nmV (k : Nat) (b : Int) : Value := if k ≤ 6 then .agg #[.int .i64 k, .string ⟨#[]⟩, .int .i64 0, .int .i64 (sgN k b)] else .agg #[.int .i64 k, .string ⟨#[]⟩, .int .i64 0, .int .u64 (unN k b)]
def nmY (k : Nat) : TypeId := if k ≤ 6 then 194 else 196
theorem kind_nm (k : Nat) (h1 : 2 ≤ k) (h2 : k ≤ 11) : ∃ ty, kindN[k]? = some ty := by
 have hk : k = 2 ∨ k = 3 ∨ k = 4 ∨ k = 5 ∨ k = 6 ∨ k = 7 ∨ k = 8 ∨ k = 9 ∨ k = 10 ∨ k = 11 := by omega
 rcases hk with rfl | rfl | rfl | rfl | rfl | rfl | rfl | rfl | rfl | rfl
 all_goals exact ⟨_, rfl⟩
theorem nm_vo (k : Nat) (b : Int) (h1 : 2 ≤ k) (h2 : k ≤ 11) (hb0 : 0 ≤ b) (hb1 : b ≤ 18446744073709551615) (W : World) : Calls Tryz.prog 95 #[DN k b] W fun e w' => e = .returned (.iface (nmY k) (nmV k b)) ∧ Below W.heap.size W w' := by
 unfold nmV nmY
 by_cases h : k ≤ 6
 ·rw [if_pos h, if_pos h]
  exact (flat_S k b h1 h hb0 hb1).vo W
 ·rw [if_neg h, if_neg h]
  exact (flat_U k b (by omega) h2 hb0 hb1).vo W
theorem nm_shown (k : Nat) (b : Int) (h1 : 2 ≤ k) (h2 : k ≤ 11) (hb0 : 0 ≤ b) (hb1 : b ≤ 18446744073709551615) (f : Sq) (hv : ¬ f.verb = 84) (hsh : f.sh = false) (hK : numK f.verb = true) {w : World} {g C M : Nat} {l : List UInt8} {m dp : Int} {av : Value} {nx : Int} (he : Env w g C M l m dp av nx) :
  Calls Tryz.prog 110 #[.pointer (some ⟨g, 0, none⟩), .iface (nmY k) (nmV k b), SV f] w fun e w' => e = .returned (.string (nmT k b f)) ∧ Below w.heap.size w w' := by
 obtain ⟨ty, hty⟩ := kind_nm k h1 h2
 unfold nmV nmY nmT
 by_cases h : k ≤ 6
 ·rw [if_pos h, if_pos h, if_pos h]
  refine shown_flat (flat_S k b h1 h hb0 hb1) ty hty f hv _ he fun W hW => ?_
  have := shaped_signed f (FA g) ty 0 (sgN k b) W hW (sgN_rng _ _).1 (sgN_rng _ _).2
  rw [hK] at this
  exact this
 ·rw [if_neg h, if_neg h, if_neg h]
  refine shown_flat (flat_U k b (by omega) h2 hb0 hb1) ty hty f hv _ he fun W hW => ?_
  have hr := unN_rng k b hb0 hb1
  have := shaped_unsigned f (FA g) ty 0 (unN k b).toNat W hW (by omega)
  rw [show uVerb f.sh f.verb = f.verb by rw [hsh]; simp [uVerb], hK, Int.toNat_of_nonneg hr.1] at this
  exact this
set_option maxRecDepth 1000000 in
theorem numberOf_S (n least : Int) (h0 : -1000 ≤ n) (h1 : n ≤ 1000) (hl : least ≤ n) (w : World) : Calls Tryz.prog 169 #[VS 6 n, .int .i64 least] w fun e w' => e = .returned (.tuple #[.int .i64 n, .bool true]) ∧ Below w.heap.size w w' := by
 have hR := raw_flat (VS 6 n) 6 0 (n % 18446744073709551616) 0 ⟨#[]⟩ ⟨#[]⟩ w fun W => rawof_signed 6 0 ⟨#[]⟩ n W
 have hw : wrap64 (n % 18446744073709551616) = n := by unfold wrap64; omega
 obtain ⟨m, hm⟩ : ∃ m, n % 18446744073709551616 = m := ⟨_, rfl⟩
 rw [hm] at hR hw
 clear hm
 have hkd := kd_signed 6 0 ⟨#[]⟩ (.int .i64 n)
 unfold KdC at hkd
 have hf : ∀ w, (Instr.field 30 (DI 0 m) 2).run Tryz.prog w = .ok (.int .u64 m) w := fun w => by kernel_rfl
 have hk := kind_any 6 0 ⟨#[]⟩
 go_enter Tryz.func169, Tryz.ntmps169
 go_wp2_with (first | (go_at_call 185; refine hR.mono ?_; rintro e V ⟨rfl, hV⟩) | (first | rw [hkd] | skip; go_at_call 407; refine (hk _).mono ?_; rintro e V2 ⟨rfl, hV2⟩))
 go_ret2
 refine ⟨?_, hV.trans (hV2.mono hV.size)⟩
 show Ending.returned (.tuple #[.int .i64 (wrap64 m), .bool true]) = _
 rw [hw]
set_option maxRecDepth 1000000 in
theorem tnum_S (n : Int) (h0 : -9223372036854775808 ≤ n) (h1 : n ≤ 9223372036854775807) (w : World) : Calls Tryz.prog 14 #[.int .i64 n] w fun e w' => e = .returned (DN 6 (n % 18446744073709551616)) ∧ Below w.heap.size w w' := by
 have hw : IntKind.u64.wrap n = n % 18446744073709551616 := rfl
 go_enter Tryz.func14, Tryz.ntmps14
 go_wp2
 go_returns
 refine ⟨?_, by go_grown⟩
 first | rfl | simp [hw]
theorem print_star (s : ByteArray) (p : Pc) (hps : prs s.data.toList = [p]) (hs : s.size ≤ 1000) (hk : p.kind = 1) (hw : p.wid.k = 2) (hw0 : p.wid.a.k = 0) (hp : p.prec.k = 0) (hp0 : p.prec.a.k = 0) (hx : p.arg.k = 0) (hmi : (spQ p).mi = false) (hsh : (spQ p).sh = false) (hv : ¬ (spQ p).verb = 37) (hv8 : ¬ (spQ p).verb = 84) (hK : numK (spQ p).verb = true)
  (wid : Int) (hwl : -1000 ≤ wid ∧ wid ≤ 1000) (k : Nat) (b : Int) (h1 : 2 ≤ k) (h2 : k ≤ 11) (hb0 : 0 ≤ b) (hb1 : b ≤ 18446744073709551615)
  (A c : Nat) (hc1 : 2 ≤ c) (hc2 : c ≤ maxLen) (T : ByteArray) (hTe : nmT k b ⟨(spQ p).p, decide (wid < 0), false, (spQ p).sp, (spQ p).z, wid.natAbs, (spQ p).prec, (spQ p).verb⟩ = T) (hT : T.size ≤ 4096) (w : World) (he : Esc w) (hkn : KN w) (hA : A < w.heap.size)
  (hd : w.rangeAt A 0 [.int .i64 6, .string ⟨#[]⟩, .int .u64 (wid % 18446744073709551616), .int .u64 0, .string ⟨#[]⟩, .slice none 0 0, .slice none 0 0, .int .i64 0, .int .i64 k, .string ⟨#[]⟩, .int .u64 b, .int .u64 0, .string ⟨#[]⟩, .slice none 0 0, .slice none 0 0, .int .i64 0]) :
  Calls Tryz.prog 11 #[.slice none 0 0, .string s, .slice (some ⟨A, 0, none⟩) 2 c] w fun e w' => e = .returned (.string T) ∧ Below w.heap.size w w' := by
 have hTl : T.data.toList.length ≤ 4096 := by rw [← Lib.size_eq]; exact hT
 have hse : sgN 6 (wid % 18446744073709551616) = wid := by
  simp [sgN, swr]
  omega
 have hvw : ∀ W, Calls Tryz.prog 95 #[DN 6 (wid % 18446744073709551616)] W fun e w' => e = .returned (VS 6 wid) ∧ Below W.heap.size W w' := fun W => by
  have := (flat_S 6 (wid % 18446744073709551616) (by decide) (by decide) (by omega) (by omega)).vo W
  rw [show sgN ((6 : Nat) : Int) (wid % 18446744073709551616) = wid from hse] at this
  exact this
 have hvn := fun W => nm_vo k b h1 h2 hb0 hb1 W
 have hsn := fun (f : Sq) hv hsh hK {w : World} {g C M : Nat} {l : List UInt8} {m dp : Int} {av : Value} {nx : Int} (he : Env w g C M l m dp av nx) => nm_shown k b h1 h2 hb0 hb1 f hv hsh hK he
 generalize nmV k b = nv at *
 generalize nmY k = ny at *
 have hPr : Calls Tryz.prog 11 #[.slice none 0 0, .string s, .slice (some ⟨A, 0, none⟩) 2 c] w fun e w' => e = .returned (.string (txt T.data.toList)) ∧ Below w.heap.size w w' := by
  refine print_N s _ _ w ⟨_, _, _, rfl⟩ fun W bW => ?_
  refine sprintf_N s _ [VS 6 wid, .iface ny nv] T.data.toList W (he.below bW) (hkn.up bW) (by omega) (fun W1 C b1 => ?_) (fun g C M av W1 hE => ?_)
  ·have bw1 := bW.trans (b1.mono bW.size)
   refine begun_raw W1 C 0 A c [[.int .i64 6, .string ⟨#[]⟩, .int .u64 (wid % 18446744073709551616), .int .u64 0, .string ⟨#[]⟩, .slice none 0 0, .slice none 0 0, .int .i64 0], [.int .i64 k, .string ⟨#[]⟩, .int .u64 b, .int .u64 0, .string ⟨#[]⟩, .slice none 0 0, .slice none 0 0, .int .i64 0]] [VS 6 wid, .iface ny nv] (Nat.lt_of_lt_of_le hA bw1.size) rfl (by show 2 ≤ 16; decide) hc1 hc2 (fun i d hi => ?_) (fun i d u hi hu => ?_)
   ·match i, hi with
    | 0, hi =>
      simp at hi
      subst hi
      exact ⟨⟨_, _, _, _, _, _, rfl⟩, fun j u hu => (bw1.cell (p := ⟨A, 0 * 8 + j, none⟩) hA).trans (by have := hd (0 * 8 + j) u (by rw [← hu]; rcases j with _ | _ | _ | _ | _ | _ | _ | _ | j <;> first | rfl | (simp at hu)); simpa using this)⟩
    | 1, hi =>
      simp at hi
      subst hi
      exact ⟨⟨_, _, _, _, _, _, rfl⟩, fun j u hu => (bw1.cell (p := ⟨A, 1 * 8 + j, none⟩) hA).trans (by have := hd (1 * 8 + j) u (by rw [← hu]; rcases j with _ | _ | _ | _ | _ | _ | _ | _ | j <;> first | rfl | (simp at hu)); simpa using this)⟩
   ·match i, hi, hu with
    | 0, hi, hu => simp at hi hu; subst hi hu; exact ⟨⟨_, _, rfl⟩, fun V => hvw V⟩
    | 1, hi, hu => simp at hi hu; subst hi hu; exact ⟨⟨_, _, rfl⟩, fun V => hvn V⟩
  ·have hlen : [VS 6 wid, .iface ny nv].length ≤ 1000 := by show 2 ≤ 1000; decide
   have hNm : ∀ W, Calls Tryz.prog 169 #[VS 6 wid, .int .i64 (-1000)] W fun e w' => e = .returned (.tuple #[.int .i64 wid, .bool true]) ∧ Below W.heap.size W w' := fun W => numberOf_S wid (-1000) hwl.1 hwl.2 hwl.1 W
   refine (format_J s (by omega) [p] hps (by
    intro q hq
    simp only [List.mem_cons, List.not_mem_nil, or_false] at hq
    subst hq
    exact ⟨hx, hw0, hp0⟩) T.data.toList [] (J' := JN C M) (P := fun k => k = g) rfl (fun k hk => by omega) hE (nx' := 3) ⟨T.data.toList, [], 3, JN C M, ?_, ⟨rfl, rfl, rfl⟩, by simp⟩ (Or.inl (by show 1 ≤ 1; decide)) (by omega) (fun V E => extra_J E (by show ((2 : Nat) : Int) < 3; decide))).mono ?_
   ·intro V l E hl
    refine piece_J p (ba p.text) hk _ 3 E fun V1 E1 => ?_
    refine dir_U p (ba p.text) ⟨(spQ p).p, decide (wid < 0), (spQ p).sh, (spQ p).sp, (spQ p).z, wid.natAbs, (spQ p).prec, (spQ p).verb⟩ ny nv T 2 3 E1 (fun V2 E2 => ?_) hv (by rw [hx]; exact tk_next 1 ny nv rfl _ hlen) rfl (fun k hk => by omega) (fun V2 E2 => ?_) (by rw [Lib.size_eq]; exact Nat.le_trans hl (by decide))
    ·refine sized_U p (ba p.text) (decide (wid < 0)) wid.natAbs (spQ p).prec (.inr ⟨by omega, wid, num_star p.wid hw (-1000) wid (by rw [hw0]; exact tk_next 0 _ _ rfl _ hlen) hNm, ?_⟩) (.inl ⟨hp, rfl, rfl⟩) E2
     by_cases h : 0 ≤ wid
     ·exact .inl ⟨h, by rw [hmi]; simp; omega, by omega⟩
     ·exact .inr ⟨by omega, hwl.1, by simp; omega, by omega⟩
    ·rw [hsh]
     refine (hsn ⟨(spQ p).p, decide (wid < 0), false, (spQ p).sp, (spQ p).z, wid.natAbs, (spQ p).prec, (spQ p).verb⟩ hv8 rfl hK (JN.env E2)).mono ?_
     rintro e V' ⟨h1, h2⟩
     rw [hTe] at h1
     exact ⟨h1, E2.up h2, .of_below h2⟩
   ·rintro e w' ⟨h1, h2, h3⟩
    rw [List.append_nil] at h2
    exact ⟨h1, ⟨_, h2.p⟩, h3⟩
 have hx : txt T.data.toList = T := by
  unfold txt
  rw [if_neg (by omega)]
 rw [hx] at hPr
 exact hPr
end Go.Proofs.YtjalgdfnehgocaaGreatDoor
namespace Go.Proofs.YtjalgdfnehgocaaGreatDoor
open Go.RowKit
set_option linter.unusedVariables false
set_option linter.unusedSimpArgs false
def vbN : Nat → Nat
 | 0 => 100
 | 1 => 98
 | 2 => 111
 | 3 => 120
 | _ => 88
def bsN : Nat → Nat
 | 0 => 10
 | 1 => 2
 | 2 => 8
 | _ => 16
def flN : Nat → ByteArray
 | 0 => ⟨#[]⟩
 | 1 => ⟨#[48]⟩
 | _ => ⟨#[43]⟩
def fmN (i j : Nat) : ByteArray := (((⟨#[37]⟩ : ByteArray) ++ flN i) ++ ⟨#[42]⟩) ++ ⟨#[UInt8.ofNat (vbN j)]⟩
theorem vb_facts (j : Nat) (hj : j < 5) : ¬ (vbN j : Int) = 99 ∧ ¬ (vbN j : Int) = 113 ∧ ¬ (vbN j : Int) = 85 ∧ baseV (vbN j) = bsN j ∧ ¬ (vbN j : Int) = 79 ∧ ¬ (vbN j : Int) = 37 ∧ ¬ (vbN j : Int) = 84 ∧ ¬ (vbN j : Int) = 118 ∧ 2 ≤ bsN j ∧ bsN j ≤ 16 ∧ numK (vbN j) = true := by
 have h5 : j = 0 ∨ j = 1 ∨ j = 2 ∨ j = 3 ∨ j = 4 := by omega
 rcases h5 with rfl | rfl | rfl | rfl | rfl <;> decide
theorem fm_size (i j : Nat) : (fmN i j).size ≤ 1000 := by
 have h : (flN i).size ≤ 1 := by
  unfold flN
  split <;> decide
 have h1 : (⟨#[37]⟩ : ByteArray).size = 1 := rfl
 have h2 : (⟨#[42]⟩ : ByteArray).size = 1 := rfl
 have h3 : (⟨#[UInt8.ofNat (vbN j)]⟩ : ByteArray).size = 1 := rfl
 unfold fmN
 rw [app_size, app_size, app_size]
 omega
structure NmT (T : ByteArray) (b : Nat) (wid nb : Int) (sz : Nat) (ng : Bool) : Prop where
 s : T.size ≤ 4096
 w : wid ≤ T.size ∧ -wid ≤ T.size
 ok : ∀ x ∈ T.data.toList, okX b x
 rd : T.data.toList.foldl (rdB b) ⟨0, false, false⟩ = ⟨sz, ng, true⟩
 lt : sz < 18446744073709551616
 v : (ng = true → IntKind.u64.wrap (-(sz : Int)) = nb) ∧ (ng = false → (sz : Int) = nb)
theorem nmt_of (bits size : Nat) (sign : ByteArray) (p mi z : Bool) (wid : Int) (hw : -1000 ≤ wid ∧ wid ≤ 1000) (j : Nat) (hj : j < 5) (nb : Int) (hs : sign.data.toList = [] ∨ sign.data.toList = [43] ∨ sign.data.toList = [45]) (hn : size < 18446744073709551616) (hv : (sign.data.toList = [45] → IntKind.u64.wrap (-(size : Int)) = nb) ∧ (¬ sign.data.toList = [45] → (size : Int) = nb)) :
  ∃ sz ng, NmT (numS bits size sign p mi false z wid.natAbs (-1) (vbN j)) (bsN j) wid nb sz ng := by
 obtain ⟨h1, h2, h3, h4, h5, -, -, -, h9, h10, -⟩ := vb_facts j hj
 have hsz : sign.size ≤ 1 := by
  rw [Lib.size_eq]
  rcases hs with h | h | h <;> rw [h] <;> decide
 obtain ⟨-, q2, q3, a, k, e, q4⟩ := num_shape bits size sign p mi z wid.natAbs (vbN j) (bsN j) h1 h2 h3 h4 (by omega) h5 hsz
 have hwd : (wdt (wid.natAbs : Int) : Nat) = wid.natAbs := by unfold wdt; omega
 refine ⟨size, decide (sign.data.toList = [45]), q2, by omega, fun x hx => ?_, ?_, hn, fun h => hv.1 (by simpa using h), fun h => hv.2 (by simpa using h)⟩
 ·rw [q4] at hx
  exact nm_ok _ _ _ _ _ _ _ h9 h10 hs x hx
 ·rw [q4]
  exact nm_read _ _ _ _ _ _ _ h9 h10 hs hn
end Go.Proofs.YtjalgdfnehgocaaGreatDoor
namespace Go.Proofs.YtjalgdfnehgocaaGreatDoor
open Go.RowKit
set_option linter.unusedVariables false
set_option linter.unusedSimpArgs false
theorem star_prs (i : Nat) (hi : i < 3) (j : Nat) (hj : j < 5) : ∃ p, prs (fmN i j).data.toList = [p] ∧ p.kind = 1 ∧ p.wid.k = 2 ∧ p.wid.a.k = 0 ∧ p.prec.k = 0 ∧ p.prec.a.k = 0 ∧ p.arg.k = 0 ∧ ∃ x, spQ p = ⟨decide (i = 2), false, false, false, decide (i = 1), x, -1, vbN j⟩ := by
 have hi3 : i = 0 ∨ i = 1 ∨ i = 2 := by omega
 have hj5 : j = 0 ∨ j = 1 ∨ j = 2 ∨ j = 3 ∨ j = 4 := by omega
 rcases hi3 with rfl | rfl | rfl <;> rcases hj5 with rfl | rfl | rfl | rfl | rfl <;> exact ⟨_, rfl, rfl, rfl, rfl, rfl, rfl, rfl, _, rfl⟩
abbrev sqN (i j : Nat) (wid : Int) : Sq := ⟨decide (i = 2), decide (wid < 0), false, false, decide (i = 1), wid.natAbs, -1, vbN j⟩
theorem sgA_list (p : Bool) : (signA p false).data.toList = [] ∨ (signA p false).data.toList = [43] := by
 cases p
 ·exact .inl rfl
 ·exact .inr rfl
theorem nm_text (k : Nat) (b : Int) (h1 : 2 ≤ k) (h2 : k ≤ 11) (hb0 : 0 ≤ b) (hb1 : b ≤ 18446744073709551615) (wid : Int) (hw : -1000 ≤ wid ∧ wid ≤ 1000) (i j : Nat) (hj : j < 5) :
  ∃ sz ng, NmT (nmT k b (sqN i j wid)) (bsN j) wid (numF k b) sz ng := by
 obtain ⟨-, -, -, -, -, -, -, h8, -, -, -⟩ := vb_facts j hj
 have hr := sgN_rng k b
 have hu := unN_rng k b hb0 hb1
 unfold nmT numF
 by_cases h : k ≤ 6
 ·have hs : sgnB (k : Int) = true := by simp [sgnB]; omega
  rw [if_pos h, if_pos hs]
  generalize sgN (k : Int) b = n at *
  obtain ⟨P, hP⟩ : ∃ P, P = (decide (i = 2) && !decide ((vbN j : Int) = 118)) := ⟨_, rfl⟩
  have e : numT n (sqN i j wid) = numS (uN n) n.natAbs (sgS n P false) P (decide (wid < 0)) false (decide (i = 1)) wid.natAbs (-1) (vbN j) := by rw [hP]; rfl
  rw [e]
  by_cases hn : n < 0
  ·have e2 : sgS n P false = ⟨#[45]⟩ := by unfold sgS; rw [if_pos hn]
   rw [e2]
   refine nmt_of _ _ _ _ _ _ wid hw j hj _ (.inr (.inr rfl)) (by omega) ⟨fun _ => ?_, fun h => absurd rfl h⟩
   rw [iwrap_u64]
   omega
  ·have e2 : sgS n P false = signA P false := by unfold sgS; rw [if_neg hn]
   rw [e2]
   have hl := sgA_list P
   refine nmt_of _ _ _ _ _ _ wid hw j hj _ (hl.elim .inl fun h => .inr (.inl h)) (by omega) ⟨fun h => ?_, fun _ => by omega⟩
   rcases hl with q | q <;> rw [q] at h <;> simp at h
 ·have hs : sgnB (k : Int) = false := by simp [sgnB]; omega
  rw [if_neg h, if_neg (by rw [hs]; decide)]
  generalize unN (k : Int) b = n at *
  obtain ⟨P, hP⟩ : ∃ P, P = (decide (i = 2) && !decide ((vbN j : Int) = 118)) := ⟨_, rfl⟩
  have e : unT n.toNat (sqN i j wid) = numS n.toNat n.toNat (signA P false) P (decide (wid < 0)) false (decide (i = 1)) wid.natAbs (-1) (uVerb false (vbN j)) := by rw [hP]; rfl
  rw [e, show uVerb false (vbN j) = (vbN j : Int) by simp [uVerb]]
  have hl := sgA_list P
  refine nmt_of _ _ _ _ _ _ wid hw j hj _ (hl.elim .inl fun h => .inr (.inl h)) (by omega) ⟨fun h => ?_, fun _ => by omega⟩
  rcases hl with q | q <;> rw [q] at h <;> simp at h
theorem pr_num (i : Nat) (hi : i < 3) (j : Nat) (hj : j < 5) (wid : Int) (hw : -1000 ≤ wid ∧ wid ≤ 1000) (k : Nat) (b : Int) (h1 : 2 ≤ k) (h2 : k ≤ 11) (hb0 : 0 ≤ b) (hb1 : b ≤ 18446744073709551615) (T : ByteArray) (hT : nmT k b (sqN i j wid) = T) (hs : T.size ≤ 4096) (A : Nat) (w : World) (he : Esc w) (hkn : KN w) (hA : A < w.heap.size)
  (hd : w.rangeAt A 0 [.int .i64 6, .string ⟨#[]⟩, .int .u64 (wid % 18446744073709551616), .int .u64 0, .string ⟨#[]⟩, .slice none 0 0, .slice none 0 0, .int .i64 0, .int .i64 k, .string ⟨#[]⟩, .int .u64 b, .int .u64 0, .string ⟨#[]⟩, .slice none 0 0, .slice none 0 0, .int .i64 0]) :
  Calls Tryz.prog 11 #[.slice none 0 0, .string (fmN i j), .slice (some ⟨A, 0, none⟩) 2 2] w fun e w' => e = .returned (.string T) ∧ Below w.heap.size w w' := by
 obtain ⟨-, -, -, -, -, h6, h7, -, -, -, h11⟩ := vb_facts j hj
 obtain ⟨p, p1, p2, p3, p4, p5, p6, p7, x, p8⟩ := star_prs i hi j hj
 refine print_star (fmN i j) p p1 (fm_size i j) p2 p3 p4 p5 p6 p7 (by rw [p8]) (by rw [p8]) (by rw [p8]; exact h6) (by rw [p8]; exact h7) (by rw [p8]; exact h11) wid hw k b h1 h2 hb0 hb1 A 2 (by decide) (by decide) T ?_ hs w he hkn hA hd
 rw [p8]
 exact hT
end Go.Proofs.YtjalgdfnehgocaaGreatDoor
