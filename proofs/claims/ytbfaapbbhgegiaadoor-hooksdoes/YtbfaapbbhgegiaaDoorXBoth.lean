/- The law's print, a script that prints, the document's answers; both sides of one method. (XAct, XDoc and XRound in one text.) -/
import Derived.Test.YtbfaapbbhgegiaaDoorXCopy
namespace Go.Proofs.YtbfaapbbhgegiaaDoor
open Go.RowKit
set_option linter.unusedVariables false
set_option linter.unusedSimpArgs false

/-- What print tells. -/
def prG (f : ByteArray) (ks : Nat → Int) : Nat → ByteArray
  | 0 => ⟨#[60]⟩ ++ f
  | i + 1 => prG f ks i ++ (⟨#[44]⟩ ++ kT (ks i))
def prT (f : ByteArray) (ks : Nat → Int) (n : Nat) : ByteArray := prG f ks n ++ ⟨#[62]⟩
theorem kT_size (k : Int) : (kT k).size ≤ 100 := by have := digT_size false 10 (kN k); unfold kT; omega
theorem prG_size (f : ByteArray) (ks : Nat → Int) (i : Nat) : (prG f ks i).size ≤ 1 + f.size + i * 101 := by
  induction i with
  | zero => unfold prG; rw [ByteArray.size_append]; have : (ByteArray.mk #[60]).size = 1 := rfl; omega
  | succ i ih => unfold prG; rw [ByteArray.size_append, ByteArray.size_append]; have := kT_size (ks i); have : (ByteArray.mk #[44]).size = 1 := rfl; omega
theorem gr_set {w V : World} {X o : Nat} (h : w.grownBy V (some X)) (v : Value) : w.grownBy (V.setCell ⟨X, o, none⟩ v) (some X) :=
  ⟨h.os, h.tape, h.output, by simpa [World.setCell] using h.size, fun k hk hne => by rw [Below.heap_setCell _ _ _ _ (by simpa using hne)]; exact h.block k hk hne⟩
set_option maxRecDepth 1000000 in
set_option maxHeartbeats 4000000 in
theorem aprint_zero {X : Nat} {p s : Int} (f : ByteArray) (a : Option Addr) (c : Nat) (ks : Nat → Int) (w : World) (hq : Aq w X p s) (hp : 0 ≤ p) (hp2 : p ≤ 1000000) (hf : f.size ≤ 100000) :
    Calls Tryd.prog 20 #[.pointer (some ⟨X, 0, none⟩), .string f, .slice a 0 c] w fun e w' => e = .returned (.string (prT f ks 0)) ∧ Aq w' X (p + 1) s ∧ w.grownBy w' (some X) := by
  have cA := hq.c 0 _ rfl
  have zA := hq.z 0
  have q2 : Aq (w.setCell ⟨X, 0, none⟩ (.int .i64 (p + 1))) X (p + 1) s := hq.set 0 (by simp) _
  have g2 : w.grownBy (w.setCell ⟨X, 0, none⟩ (.int .i64 (p + 1))) (some X) := gr_set (World.grownBy.refl _ _) _
  have hfI : (f.size : Int) ≤ 100000 := by omega
  have hsz : ((⟨#[60]⟩ ++ f : ByteArray).size : Int) ≤ 100001 := by rw [ByteArray.size_append]; have : (ByteArray.mk #[60]).size = 1 := rfl; omega
  unfold prT prG
  clear hq hf
  go_enter Tryd.func20, Tryd.ntmps20
  go_upto_region 3 with fail
  generalize w.setCell ⟨X, 0, none⟩ (.int .i64 (p + 1)) = W2 at *
  go_wp2
  refine wp_loop_rounds 1 ?_
  rw [rounds_succ]
  go_wp2
  go_ret
  exact ⟨rfl, q2, g2⟩
set_option maxRecDepth 1000000 in
set_option maxHeartbeats 8000000 in
theorem aprint_many {X : Nat} {p s : Int} (f : ByteArray) (b off n c : Nat) (es : Nat → Ds) (ks : Nat → Int) (w : World) (hq : Aq w X p s) (hp : 0 ≤ p) (hp2 : p ≤ 1000000) (hf : f.size ≤ 100000) (hn : n ≤ 1000) (hbX : b ≠ X) (hb : b < w.heap.size) (hr : ∀ i, i < n → w.rangeAt b (off + i * 8) (es i).v) (hk : ∀ i, i < n → (es i).k = ks i) :
    Calls Tryd.prog 20 #[.pointer (some ⟨X, 0, none⟩), .string f, .slice (some ⟨b, off, none⟩) n c] w fun e w' => e = .returned (.string (prT f ks n)) ∧ Aq w' X (p + 1) s ∧ w.grownBy w' (some X) := by
  have cA := hq.c 0 _ rfl
  have zA := hq.z 0
  have q2 : Aq (w.setCell ⟨X, 0, none⟩ (.int .i64 (p + 1))) X (p + 1) s := hq.set 0 (by simp) _
  have g2 : w.grownBy (w.setCell ⟨X, 0, none⟩ (.int .i64 (p + 1))) (some X) := gr_set (World.grownBy.refl _ _) _
  have hfI : (f.size : Int) ≤ 100000 := by omega
  have hnI : (n : Int) ≤ 1000 := by omega
  have hzG := fun i => prG_size f ks i
  have h0 : prG f ks 0 = ⟨#[60]⟩ ++ f := rfl
  have hS : ∀ i, prG f ks (i + 1) = prG f ks i ++ (⟨#[44]⟩ ++ kT (ks i)) := fun i => rfl
  have hT : prT f ks n = prG f ks n ++ ⟨#[62]⟩ := rfl
  have hD : ∀ k w, Calls Tryd.prog 36 #[.int .u64 (k % 4294967296), .int .i64 10] w fun e w' => e = .returned (.string (kT k)) ∧ w' = w := fun k w => by rw [← kN_int]; exact edigits_10 (kN k) w (by have := kN_lt k; omega)
  generalize prG f ks = G at *
  rw [hT]
  clear hq hT
  have hF : ((⟨#[60]⟩ ++ f : ByteArray).size : Int) ≤ 200000 := by rw [← h0]; have := hzG 0; omega
  have HF0 : Hid (⟨#[60]⟩ ++ f = G 0) := h0.symm
  clear h0
  go_enter Tryd.func20, Tryd.ntmps20
  go_upto_region 3 with fail
  rw [HF0.out]
  generalize w.setCell ⟨X, 0, none⟩ (.int .i64 (p + 1)) = W2 at *
  go_wp2
  go_loopg [7, 9, 21] n (fun gg x y z wr => ∃ (i : Nat) (V : World), V = wr ∧ i ≤ n ∧ n ≤ i + gg ∧ z = .int .i64 (i : Nat) ∧ x = .string (G i) ∧ Aq V X (p + 1) s ∧ w.grownBy V (some X))
  case atStart => exact ⟨0, _, rfl, by omega, by omega, rfl, rfl, q2, g2⟩
  case round =>
    obtain ⟨i, V, rfl, hi, hgk, rfl, rfl, qV, gV⟩ := hrel
    by_cases hlt : i < n
    · have hltI : (i : Int) < n := by omega
      have hnn : ¬ (i : Int) < 0 := by omega
      have hre : V.rangeAt b (off + i * 8) (es i).v := fun j v hv => (World.cell?_of_block (w := w) (a := ⟨b, _, none⟩) (gV.block b hb (by simpa using hbX))).trans (hr i hlt j v hv)
      have hki := hk i hlt
      have hl := (es i).len
      have ho := (es i).one
      have aV : Below V.heap.size V (V.alloc (.cells #[.int .i64 0, .string ⟨#[]⟩, .int .u64 0, .int .u64 0, .string ⟨#[]⟩, .slice none 0 0, .slice none 0 0, .int .i64 0] 26)) := (Below.refl _ _).alloc (Nat.le_refl _) _
      have bN : Blk (V.alloc (.cells #[.int .i64 0, .string ⟨#[]⟩, .int .u64 0, .int .u64 0, .string ⟨#[]⟩, .slice none 0 0, .slice none 0 0, .int .i64 0] 26)) V.heap.size Ds.no.v := Blk.new V Ds.no.v 26
      have bE := bN.all (es i).v rfl
      have cK : ((V.alloc (.cells #[.int .i64 0, .string ⟨#[]⟩, .int .u64 0, .int .u64 0, .string ⟨#[]⟩, .slice none 0 0, .slice none 0 0, .int .i64 0] 26)).setCells V.heap.size 0 (es i).v).cell? ⟨V.heap.size, 0, none⟩ = some (.int .i64 (ks i)) := by rw [bE.c 0 _ rfl, ← hki]
      have bB : Below V.heap.size V ((V.alloc (.cells #[.int .i64 0, .string ⟨#[]⟩, .int .u64 0, .int .u64 0, .string ⟨#[]⟩, .slice none 0 0, .slice none 0 0, .int .i64 0] 26)).setCells V.heap.size 0 (es i).v) := xbelow_sc aV (Nat.le_refl _) _ _
      have hDi := hD (ks i)
      have hz1 : ((kT (ks i)).size : Int) ≤ 100 := by have := kT_size (ks i); omega
      have hz2 : ((G i).size : Int) ≤ 300000 := by have := hzG i; omega
      have HS : Hid (G (i + 1) = G i ++ (⟨#[44]⟩ ++ kT (ks i))) := hS i
      have hz3 : ((⟨#[44]⟩ ++ kT (ks i) : ByteArray).size : Int) ≤ 101 := by rw [ByteArray.size_append]; have : (ByteArray.mk #[44]).size = 1 := rfl; omega
      clear hD hS hzG bE hki hr hk
      generalize (es i).v = E at *
      generalize kT (ks i) = K at *
      generalize ks i = kk at *
      generalize hGi : G i = GI at *
      clear hGi
      go_upto_region 6 with (first
        | (refine wpl_ld row_Desc rfl (.tmp 23) rfl (vs := E) rfl hre hl ?_)
        | (refine wpl_st row_Desc rfl (.tmp 9) (.tmp 24) rfl (us := E) (vs := Ds.no.v) rfl rfl bN rfl hl ho ?_; generalize World.setCells _ _ _ _ = V2 at *))
      try simp only [Act.put]
      clear aV bN
      go_wp2_with (go_at_call 36; refine (hDi _).mono ?_; rintro e w9 ⟨rfl, q9⟩; subst q9)
      go_roundg (gk - 1)
      case measure => omega
      case rel => exact ⟨i + 1, _, rfl, by omega, by omega, by go_num, by rw [HS.out], qV.up bB, gV.trans (xgr_below bB _)⟩
    · obtain rfl : i = n := by omega
      have hz2 : ((G i).size : Int) ≤ 300000 := by have := hzG i; omega
      go_wp2
      go_ret
      exact ⟨rfl, qV, gV⟩
theorem aprint_any {X : Nat} {p s : Int} (f : ByteArray) (l : Sl) (ks : Nat → Int) (w : World) (hq : Aq w X p s) (hp : 0 ≤ p) (hp2 : p ≤ 1000000) (hf : f.size ≤ 100000) (hn : l.n ≤ 1000) (hl : ∀ i, i < l.n → KsAt w l i (ks i)) (hX : 0 < l.n → ∀ b off, l.a = some ⟨b, off, none⟩ → b ≠ X) :
    Calls Tryd.prog 20 #[.pointer (some ⟨X, 0, none⟩), .string f, .slice l.a l.n l.c] w fun e w' => e = .returned (.string (prT f ks l.n)) ∧ Aq w' X (p + 1) s ∧ w.grownBy w' (some X) := by
  obtain ⟨a, n, c⟩ := l
  rcases Nat.eq_zero_or_pos n with h0 | h0
  · subst h0
    exact aprint_zero f a c ks w hq hp hp2 hf
  · obtain ⟨b, off, ha, hb, _⟩ := hl 0 h0
    dsimp only at ha
    subst ha
    have hx' : ∀ i : Nat, ∃ e : Ds, i < n → w.rangeAt b (off + i * 8) e.v ∧ e.k = ks i := fun i => by
      rcases Nat.lt_or_ge i n with h1 | h1
      · obtain ⟨b', off', ha', _, e, he⟩ := hl i h1
        simp only [Option.some.injEq, Addr.mk.injEq, and_true] at ha'
        obtain ⟨rfl, rfl⟩ := ha'
        exact ⟨e, fun _ => he⟩
      · exact ⟨.no, fun h2 => by omega⟩
    obtain ⟨es, hes⟩ := Classical.skolem.1 hx'
    exact aprint_many f b off n c es ks w hq hp hp2 hf hn (hX h0 b off rfl) hb (fun i hi => (hes i hi).1) (fun i hi => (hes i hi).2)
theorem KsAt.up {W V : World} {l : Sl} {i : Nat} {k : Int} (hb : Below W.heap.size W V) (h : KsAt W l i k) : KsAt V l i k := by
  obtain ⟨b, off, ha, hlt, e, he, hk⟩ := h
  exact ⟨b, off, ha, Nat.lt_of_lt_of_le hlt hb.size, e, rng_up hb hlt he, hk⟩
set_option maxRecDepth 1000000 in
set_option maxHeartbeats 8000000 in
theorem prints_any {wB w0 : World} {X : Nat} {p s : Int} {x : Ac} {m : Nat} {ks : Nat → Int} (hB : Below wB.heap.size wB w0) (hXB : wB.heap.size ≤ X) (hP : PsK m wB x.l) (hks : ∀ i, i < x.l.n → KsAt wB x.l i (ks i)) (hp : 0 ≤ p) (hp2 : p ≤ 1000000) (hf : x.f.size ≤ 100000) (hn : x.l.n ≤ 1000) :
    Fc w0 X p s (p + 1) s 44 #[.agg (x.v ++ [prF X]).toArray] (prT x.f ks x.l.n) := by
  intro W gW hq
  have hBW : Below wB.heap.size wB W := hB.grown gW hB.size (fun k hk => by cases hk; exact hXB)
  obtain ⟨W1, hW1⟩ : ∃ W1, W1 = W.alloc (.cells (x.v ++ [prF X]).toArray 63) := ⟨_, rfl⟩
  have hb : Blk W1 W.heap.size (x.v ++ [prF X]) := by rw [hW1]; exact Blk.new _ _ _
  have w1 : Below W.heap.size W W1 := by rw [hW1]; exact (Below.refl _ _).alloc (Nat.le_refl _) _
  have q1 := hq.up w1
  have hX := hq.b
  have f0 : ∀ V, W1.grownBy V (some X) → (fun w' : World => w'.cell? ⟨W.heap.size, 12, none⟩ = some (prF X) ∧ w'.cell? ⟨W.heap.size, 2, none⟩ = some (.string x.f) ∧ w'.cell? ⟨W.heap.size, 3, none⟩ = some (.slice x.l.a x.l.n x.l.c)) V := fun V gV => by
    have b := hb.grown gV (by omega)
    exact ⟨b.c 12 _ rfl, b.c 2 _ rfl, b.c 3 _ rfl⟩
  have c12 : W1.cell? ⟨W.heap.size, 12, none⟩ = some (prF X) := (f0 W1 (World.grownBy.refl _ _)).1
  have hfn := fun w => feql_fprint (.func 20) #[.pointer (some ⟨X, 0, none⟩)] #[] w
  have gD : W1.grownBy W1.drew (some X) := xgr_below (Below.refl W1.heap.size W1).drew _
  have bD : Below W1.heap.size W1 W1.drew := (Below.refl W1.heap.size W1).drew
  have qD : Aq W1.drew X p s := q1.up bD
  have hBD : Below wB.heap.size wB W1.drew := (hBW.trans (w1.mono hBW.size)).trans (bD.mono (Nat.le_trans hBW.size w1.size))
  have hc := copies_all m x.l W1.drew (hP.up hBD)
  have hPr : ∀ (V : World) (l' : Sl), l'.n = x.l.n → Below W1.drew.heap.size W1.drew V → (∀ i, i < x.l.n → ∀ k, KsAt W1.drew x.l i k → KsAt V l' i k) → (∀ b off, l'.a = some ⟨b, off, none⟩ → b ≠ X) → Calls Tryd.prog 20 #[.pointer (some ⟨X, 0, none⟩), .string x.f, .slice l'.a l'.n l'.c] V fun e w' => e = .returned (.string (prT x.f ks x.l.n)) ∧ Aq w' X (p + 1) s ∧ V.grownBy w' (some X) := fun V l' hl hV hk hXl => by
    rw [← hl]
    exact aprint_any x.f l' ks V (qD.up hV) hp hp2 hf (by omega) (fun i hi => hk i (by omega) _ ((hks i (by omega)).up hBD)) (fun _ => hXl)
  have hsz : X < W1.drew.heap.size := qD.b
  clear hP hks hBD hBW hb hq
  generalize hLX : x.v ++ [prF X] = L at *
  clear hLX
  generalize prT x.f ks x.l.n = T at *
  generalize x.f = f at *
  generalize x.l.a = la at *
  generalize x.l.n = ln at *
  generalize x.l.c = lc at *
  go_enter Tryd.func44, Tryd.ntmps44
  go_upto_region 1 with fail
  rw [← hW1]
  clear hW1
  go_upto_region 3 with fail
  refine wp_region_held_drew (S := fun w' => w'.cell? ⟨W.heap.size, 12, none⟩ = some (prF X) ∧ w'.cell? ⟨W.heap.size, 2, none⟩ = some (.string f) ∧ w'.cell? ⟨W.heap.size, 3, none⟩ = some (.slice la ln lc)) (by kernel_rfl) (f0 _ gD) ?_
  intro hS
  refine wpAnyH_take (i := 0) (v := .pointer (some ⟨W.heap.size, 12, none⟩)) rfl (by kernel_rfl) (by kernel_rfl) (by kernel_rfl) (fun _ _ _ h => h) (Or.inl ⟨by rfl, ?_⟩) (by assumption) ?_
  · intro w5 hSw
    obtain ⟨s0, s1, s2⟩ := hSw
    go_simp
  try simp only [Act.put, List.setIfInBounds_toArray, List.set_cons_zero, List.set_cons_succ]
  refine wpAnyH_take (i := 1) (v := prF X) rfl (by kernel_rfl) (by kernel_rfl) (by kernel_rfl) (fun _ _ _ h => h) (Or.inl ⟨by rfl, ?_⟩) (by assumption) ?_
  · intro w5 hSw
    obtain ⟨s0, s1, s2⟩ := hSw
    go_simp
  try simp only [Act.put, List.setIfInBounds_toArray, List.set_cons_zero, List.set_cons_succ]
  refine wpAnyH_take (i := 2) (v := .pointer (some ⟨W.heap.size, 0, none⟩)) rfl (by kernel_rfl) (by kernel_rfl) (by kernel_rfl) (fun _ _ _ h => h) (Or.inl ⟨by rfl, ?_⟩) (by assumption) ?_
  · intro w5 hSw
    obtain ⟨s0, s1, s2⟩ := hSw
    go_simp
  try simp only [Act.put, List.setIfInBounds_toArray, List.set_cons_zero, List.set_cons_succ]
  refine wpAnyH_take (i := 3) (v := .pointer (some ⟨W.heap.size, 2, none⟩)) rfl (by kernel_rfl) (by kernel_rfl) (by kernel_rfl) (fun _ _ _ h => h) (Or.inl ⟨by rfl, ?_⟩) (by assumption) ?_
  · intro w5 hSw
    obtain ⟨s0, s1, s2⟩ := hSw
    go_simp
  try simp only [Act.put, List.setIfInBounds_toArray, List.set_cons_zero, List.set_cons_succ]
  refine wpAnyH_take (i := 4) (v := .string f) rfl (by kernel_rfl) (by kernel_rfl) (by kernel_rfl) (fun _ _ _ h => h) (Or.inl ⟨by rfl, ?_⟩) (by assumption) ?_
  · intro w5 hSw
    obtain ⟨s0, s1, s2⟩ := hSw
    go_simp
  try simp only [Act.put, List.setIfInBounds_toArray, List.set_cons_zero, List.set_cons_succ]
  refine wpAnyH_take (i := 5) (v := .pointer (some ⟨W.heap.size, 0, none⟩)) rfl (by kernel_rfl) (by kernel_rfl) (by kernel_rfl) (fun _ _ _ h => h) (Or.inl ⟨by rfl, ?_⟩) (by assumption) ?_
  · intro w5 hSw
    obtain ⟨s0, s1, s2⟩ := hSw
    go_simp
  try simp only [Act.put, List.setIfInBounds_toArray, List.set_cons_zero, List.set_cons_succ]
  refine wpAnyH_take (i := 6) (v := .pointer (some ⟨W.heap.size, 3, none⟩)) rfl (by kernel_rfl) (by kernel_rfl) (by kernel_rfl) (fun _ _ _ h => h) (Or.inl ⟨by rfl, ?_⟩) (by assumption) ?_
  · intro w5 hSw
    obtain ⟨s0, s1, s2⟩ := hSw
    go_simp
  try simp only [Act.put, List.setIfInBounds_toArray, List.set_cons_zero, List.set_cons_succ]
  refine wpAnyH_take (i := 7) (v := .slice la ln lc) rfl (by kernel_rfl) (by kernel_rfl) (by kernel_rfl) (fun _ _ _ h => h) (Or.inl ⟨by rfl, ?_⟩) (by assumption) ?_
  · intro w5 hSw
    obtain ⟨s0, s1, s2⟩ := hSw
    go_simp
  try simp only [Act.put, List.setIfInBounds_toArray, List.set_cons_zero, List.set_cons_succ]
  refine wpAnyH_ready (rs := [8]) (by kernel_rfl) (by simp) ?_
  refine AllReadyH.cons rfl (fun K hK => ?_) AllReadyH.nil
  go_simp
  refine hc.mono ?_
  rintro e Z ⟨⟨l', rfl, e1, e2, e3⟩, hbZ⟩
  have gZ : W1.grownBy Z (some X) := gD.trans (xgr_below hbZ _)
  have hPr' := hPr Z l' e1 hbZ e3 (fun b off h hbx => by have := e2 b off h; omega)
  clear hPr hc e3 e2
  obtain ⟨la2, ln2, lc2⟩ := l'
  dsimp only at hPr'
  refine hK.out _ _ (f0 Z gZ) (fun hHeld => ?_)
  try simp only [Act.put, List.setIfInBounds_toArray, List.set_cons_zero, List.set_cons_succ]
  refine wpAnyH_ready (rs := [9]) (by kernel_rfl) (by simp) ?_
  refine AllReadyH.cons rfl (fun K1 hK1 => ?_) AllReadyH.nil
  go_simp
  refine hPr'.mono ?_
  rintro e Z2 ⟨rfl, q2, g2⟩
  refine hK1.out _ _ (f0 Z2 (gZ.trans g2)) (fun _ => ?_)
  refine wpAnyH_ready (rs := [10]) (by kernel_rfl) (by simp) ?_
  refine AllReadyH.cons rfl (fun K2 hK2 => ?_) AllReadyH.nil
  go_simp
  refine hK2.out _ _ (f0 Z2 (gZ.trans g2)) (fun _ => ?_)
  refine wpAnyH_done (by kernel_rfl) ?_ _
  clear hK hK1 hK2
  go_wp2
  go_ret
  exact ⟨rfl, q2, (xgr_below w1 _).trans (gZ.trans g2)⟩

theorem neq_ask (p s : Int) (w : World) : (binOp BinOp.neq 42 (.agg #[.int .i64 p, .int .i64 s]) (.agg #[.int .i64 p, .int .i64 s])).run Tryd.prog w = .ok (.bool false) w := by
  simp [go_sem]
set_option maxRecDepth 1000000 in
set_option maxHeartbeats 4000000 in
theorem jdo_1 (x : Ac) (np : Bool) (v : Int) (m A : ByteArray) (hk : x.k = 1) (w : World) : Calls Tryd.prog 22 #[.agg x.v.toArray, .bool np, .int .i32 v, .string m, .string A] w fun e w' => e = .returned (.tuple #[.string x.t, .bool true]) ∧ Below w.heap.size w w' := by
  obtain ⟨W1, hW1⟩ : ∃ W1, W1 = w.alloc (.cells x.v.toArray 28) := ⟨_, rfl⟩
  have hb : Blk W1 w.heap.size x.v := by rw [hW1]; exact Blk.new _ _ _
  have w1 : Below w.heap.size w W1 := by rw [hW1]; exact (Below.refl _ _).alloc (Nat.le_refl _) _
  have c0 : W1.cell? ⟨w.heap.size, 0, none⟩ = some (.int .i64 x.k) := hb.c 0 _ rfl
  have c1 : W1.cell? ⟨w.heap.size, 1, none⟩ = some (.string x.t) := hb.c 1 _ rfl
  rw [hk] at c0
  clear hb hk
  generalize x.t = t at *
  generalize x.v.toArray = XV at *
  go_enter Tryd.func22, Tryd.ntmps22
  go_upto_region 1 with fail
  rw [← hW1]
  clear hW1
  go_wp2
  go_ret2
  exact ⟨rfl, w1⟩
set_option maxRecDepth 1000000 in
set_option maxHeartbeats 4000000 in
theorem jdo_3 (x : Ac) (np : Bool) (v : Int) (m A : ByteArray) (hk : x.k = 3) (w : World) : Calls Tryd.prog 22 #[.agg x.v.toArray, .bool np, .int .i32 v, .string m, .string A] w fun e w' => e = .returned (.tuple #[.string A, .bool true]) ∧ Below w.heap.size w w' := by
  obtain ⟨W1, hW1⟩ : ∃ W1, W1 = w.alloc (.cells x.v.toArray 28) := ⟨_, rfl⟩
  have hb : Blk W1 w.heap.size x.v := by rw [hW1]; exact Blk.new _ _ _
  have w1 : Below w.heap.size w W1 := by rw [hW1]; exact (Below.refl _ _).alloc (Nat.le_refl _) _
  have c0 : W1.cell? ⟨w.heap.size, 0, none⟩ = some (.int .i64 x.k) := hb.c 0 _ rfl
  have c1 : W1.cell? ⟨w.heap.size, 1, none⟩ = some (.string x.t) := hb.c 1 _ rfl
  rw [hk] at c0
  clear hb hk c1
  generalize x.v.toArray = XV at *
  go_enter Tryd.func22, Tryd.ntmps22
  go_upto_region 1 with fail
  rw [← hW1]
  clear hW1
  go_wp2
  go_ret2
  exact ⟨rfl, w1⟩
set_option maxRecDepth 1000000 in
set_option maxHeartbeats 4000000 in
theorem jdo_nil (x : Ac) (np : Bool) (v : Int) (m A : ByteArray) (hk : x.k = 2) (hnp : np = true) (w : World) : Calls Tryd.prog 22 #[.agg x.v.toArray, .bool np, .int .i32 v, .string m, .string A] w fun e w' => e = .returned (.tuple #[.string ⟨#[60, 110, 105, 108, 62]⟩, .bool false]) ∧ Below w.heap.size w w' := by
  obtain ⟨W1, hW1⟩ : ∃ W1, W1 = w.alloc (.cells x.v.toArray 28) := ⟨_, rfl⟩
  have hb : Blk W1 w.heap.size x.v := by rw [hW1]; exact Blk.new _ _ _
  have w1 : Below w.heap.size w W1 := by rw [hW1]; exact (Below.refl _ _).alloc (Nat.le_refl _) _
  have c0 : W1.cell? ⟨w.heap.size, 0, none⟩ = some (.int .i64 x.k) := hb.c 0 _ rfl
  have c1 : W1.cell? ⟨w.heap.size, 1, none⟩ = some (.string x.t) := hb.c 1 _ rfl
  rw [hk] at c0
  subst hnp
  clear hb hk c1
  generalize x.v.toArray = XV at *
  go_enter Tryd.func22, Tryd.ntmps22
  go_upto_region 1 with fail
  rw [← hW1]
  clear hW1
  go_wp2
  go_ret2
  exact ⟨rfl, w1⟩
set_option maxRecDepth 1000000 in
set_option maxHeartbeats 4000000 in
theorem jdo_2 (x : Ac) (np : Bool) (v : Int) (m A : ByteArray) (hk : x.k = 2) (hnp : np = false) (hm : m.size ≤ 1000) (hA : A.size ≤ 9000) (w : World) : Calls Tryd.prog 22 #[.agg x.v.toArray, .bool np, .int .i32 v, .string m, .string A] w fun e w' => e = .returned (.tuple #[.string (pnT v m A), .bool false]) ∧ Below w.heap.size w w' := by
  obtain ⟨W1, hW1⟩ : ∃ W1, W1 = w.alloc (.cells x.v.toArray 28) := ⟨_, rfl⟩
  have hb : Blk W1 w.heap.size x.v := by rw [hW1]; exact Blk.new _ _ _
  have w1 : Below w.heap.size w W1 := by rw [hW1]; exact (Below.refl _ _).alloc (Nat.le_refl _) _
  have c0 : W1.cell? ⟨w.heap.size, 0, none⟩ = some (.int .i64 x.k) := hb.c 0 _ rfl
  have c1 : W1.cell? ⟨w.heap.size, 1, none⟩ = some (.string x.t) := hb.c 1 _ rfl
  rw [hk] at c0
  subst hnp
  have hP : ∀ W, Calls Tryd.prog 37 #[.int .i32 v, .string m, .string A] W fun e w' => e = .returned (.string (pnT v m A)) ∧ Below W.heap.size W w' := fun W => upanic_big v m hm A hA W
  clear hb hk c1 hm hA
  generalize pnT v m A = R at *
  generalize x.v.toArray = XV at *
  go_enter Tryd.func22, Tryd.ntmps22
  go_upto_region 1 with fail
  rw [← hW1]
  clear hW1
  go_wp2_with (go_at_call 37; refine (hP _).mono ?_; rintro e W2 ⟨rfl, q2⟩)
  go_ret2
  exact ⟨rfl, w1.trans (q2.mono w1.size)⟩
set_option maxRecDepth 1000000 in
set_option maxHeartbeats 4000000 in
theorem jdo_0 (x : Ac) (np : Bool) (v : Int) (m A : ByteArray) (h1 : ¬ x.k = 1) (h2 : ¬ x.k = 2) (h3 : ¬ x.k = 3) (w : World) : Calls Tryd.prog 22 #[.agg x.v.toArray, .bool np, .int .i32 v, .string m, .string A] w fun e w' => e = .returned (.tuple #[.string ⟨#[]⟩, .bool false]) ∧ Below w.heap.size w w' := by
  obtain ⟨W1, hW1⟩ : ∃ W1, W1 = w.alloc (.cells x.v.toArray 28) := ⟨_, rfl⟩
  have hb : Blk W1 w.heap.size x.v := by rw [hW1]; exact Blk.new _ _ _
  have w1 : Below w.heap.size w W1 := by rw [hW1]; exact (Below.refl _ _).alloc (Nat.le_refl _) _
  have c0 : W1.cell? ⟨w.heap.size, 0, none⟩ = some (.int .i64 x.k) := hb.c 0 _ rfl
  have c1 : W1.cell? ⟨w.heap.size, 1, none⟩ = some (.string x.t) := hb.c 1 _ rfl
  clear hb c1
  generalize x.k = k at *
  generalize x.v.toArray = XV at *
  go_enter Tryd.func22, Tryd.ntmps22
  go_upto_region 1 with fail
  rw [← hW1]
  clear hW1
  go_wp2
  go_ret2
  exact ⟨rfl, w1⟩
set_option maxRecDepth 1000000 in
set_option maxHeartbeats 4000000 in
theorem doc_none {Y : Nat} {p s : Int} (x : Ac) (np : Bool) (hn : ndN x.k np = 0) (w : World) (hq : Aq w Y p s) : Calls Tryd.prog 23 #[.pointer (some ⟨Y, 0, none⟩), .agg x.v.toArray, .bool np] w fun e w' => e = .returned (.string ⟨#[]⟩) ∧ Aq w' Y p s ∧ w.grownBy w' (some Y) := by
  obtain ⟨W1, hW1⟩ : ∃ W1, W1 = w.alloc (.cells x.v.toArray 28) := ⟨_, rfl⟩
  have hb : Blk W1 w.heap.size x.v := by rw [hW1]; exact Blk.new _ _ _
  have w1 : Below w.heap.size w W1 := by rw [hW1]; exact (Below.refl _ _).alloc (Nat.le_refl _) _
  have q1 := hq.up w1
  have hN := fun w => need_any x np w
  have hl := x.len
  rw [hn] at hN
  clear hn hq
  generalize x.v = XV at *
  go_enter Tryd.func23, Tryd.ntmps23
  go_upto_region 1 with fail
  rw [← hW1]
  clear hW1
  go_upto_region 2 with (first
    | (refine wpl_ld row_Act rfl (.tmp 4) rfl (vs := XV) rfl hb.range hl ?_)
    | (go_at_call 38; refine (hN _).mono ?_; rintro e W2 ⟨rfl, b2⟩))
  go_wp2
  go_ret
  exact ⟨rfl, q1.up b2, (xgr_below w1 _).trans (xgr_below b2 _)⟩
set_option maxRecDepth 1000000 in
set_option maxHeartbeats 4000000 in
theorem doc_show {Y : Nat} {p s : Int} (x : Ac) (np : Bool) (hn : ndN x.k np = 2) (hs : 0 ≤ s) (hs2 : s ≤ 1000000) (ht : x.p.tx.size ≤ 100000) (w : World) (hq : Aq w Y p s) : Calls Tryd.prog 23 #[.pointer (some ⟨Y, 0, none⟩), .agg x.v.toArray, .bool np] w fun e w' => e = .returned (.string (shT x.p.k x.p.tx)) ∧ Aq w' Y p (s + 1) ∧ w.grownBy w' (some Y) := by
  obtain ⟨W1, hW1⟩ : ∃ W1, W1 = w.alloc (.cells x.v.toArray 28) := ⟨_, rfl⟩
  have hb : Blk W1 w.heap.size x.v := by rw [hW1]; exact Blk.new _ _ _
  have w1 : Below w.heap.size w W1 := by rw [hW1]; exact (Below.refl _ _).alloc (Nat.le_refl _) _
  have q1 := hq.up w1
  have hN := fun w => need_any x np w
  have hl := x.len
  rw [hn] at hN
  have hr : ∀ V, Below W1.heap.size W1 V → V.rangeAt w.heap.size 4 x.p.v := fun V hV => by
    have hb' : Blk V w.heap.size ([.int .i64 x.k, .string x.t, .string x.f, .slice x.l.a x.l.n x.l.c] ++ (x.p.v ++ [])) := by rw [List.append_nil]; exact hb.up hV
    exact Blk.mid hb' rfl
  have hSh := fun (V : World) (qV : Aq V Y p s) => ashow_any x.p V qV hs hs2 ht
  have hlp := x.p.len
  clear hn hq hs hs2 ht
  generalize shT x.p.k x.p.tx = T at *
  generalize x.p.v = PV at *
  generalize x.v = XV at *
  go_enter Tryd.func23, Tryd.ntmps23
  go_upto_region 1 with fail
  rw [← hW1]
  clear hW1
  go_upto_region 2 with (first
    | (refine wpl_ld row_Act rfl (.tmp 4) rfl (vs := XV) rfl hb.range hl ?_)
    | (go_at_call 38; refine (hN _).mono ?_; rintro e W2 ⟨rfl, b2⟩))
  have r2 := hr _ b2
  have q2 := q1.up b2
  clear hr
  go_wp2_with (first
    | (refine wpl_ld row_Desc rfl (.tmp 21) rfl (vs := PV) rfl r2 hlp ?_)
    | (go_at_call 21; refine (hSh _ q2).mono ?_; rintro e W3 ⟨rfl, q3, g3⟩))
  go_ret
  exact ⟨rfl, q3, (xgr_below w1 _).trans ((xgr_below b2 _).trans g3)⟩
set_option maxRecDepth 1000000 in
set_option maxHeartbeats 4000000 in
theorem doc_print {Y : Nat} {p s : Int} (x : Ac) (np : Bool) (ks : Nat → Int) (hn : ndN x.k np = 1) (hp : 0 ≤ p) (hp2 : p ≤ 1000000) (hf : x.f.size ≤ 100000) (hln : x.l.n ≤ 1000) (hX : 0 < x.l.n → ∀ b off, x.l.a = some ⟨b, off, none⟩ → b ≠ Y) (w : World) (hl0 : ∀ i, i < x.l.n → KsAt w x.l i (ks i)) (hq : Aq w Y p s) : Calls Tryd.prog 23 #[.pointer (some ⟨Y, 0, none⟩), .agg x.v.toArray, .bool np] w fun e w' => e = .returned (.string (prT x.f ks x.l.n)) ∧ Aq w' Y (p + 1) s ∧ w.grownBy w' (some Y) := by
  obtain ⟨W1, hW1⟩ : ∃ W1, W1 = w.alloc (.cells x.v.toArray 28) := ⟨_, rfl⟩
  have hb : Blk W1 w.heap.size x.v := by rw [hW1]; exact Blk.new _ _ _
  have w1 : Below w.heap.size w W1 := by rw [hW1]; exact (Below.refl _ _).alloc (Nat.le_refl _) _
  have q1 := hq.up w1
  have hN := fun w => need_any x np w
  have hl := x.len
  rw [hn] at hN
  have hPr := fun (V : World) (qV : Aq V Y p s) (hV : Below w.heap.size w V) => aprint_any x.f x.l ks V qV hp hp2 hf hln (fun i hi => (hl0 i hi).up hV) hX
  have c2 : ∀ V, Below W1.heap.size W1 V → V.cell? ⟨w.heap.size, 2, none⟩ = some (.string x.f) ∧ V.cell? ⟨w.heap.size, 3, none⟩ = some (.slice x.l.a x.l.n x.l.c) := fun V hV => ⟨(hb.up hV).c 2 _ rfl, (hb.up hV).c 3 _ rfl⟩
  clear hn hq hl0 hX hp hp2 hf hln
  generalize prT x.f ks x.l.n = T at *
  generalize x.f = f at *
  generalize x.l.a = la at *
  generalize x.l.n = ln at *
  generalize x.l.c = lc at *
  generalize x.v = XV at *
  go_enter Tryd.func23, Tryd.ntmps23
  go_upto_region 1 with fail
  rw [← hW1]
  clear hW1
  go_upto_region 2 with (first
    | (refine wpl_ld row_Act rfl (.tmp 4) rfl (vs := XV) rfl hb.range hl ?_)
    | (go_at_call 38; refine (hN _).mono ?_; rintro e W2 ⟨rfl, b2⟩))
  obtain ⟨d2, d3⟩ := c2 _ b2
  have q2 := q1.up b2
  have w2 := w1.trans (b2.mono w1.size)
  have hPr2 := hPr W2 q2 w2
  clear hPr c2
  go_wp2_with (go_at_call 20; refine hPr2.mono ?_; rintro e W3 ⟨rfl, q3, g3⟩)
  go_ret
  exact ⟨rfl, q3, (xgr_below w1 _).trans ((xgr_below b2 _).trans g3)⟩

theorem PsK.kinds {m : Nat} {W : World} {l : Sl} (h : PsK m W l) : ∃ ks : Nat → Int, ∀ i, i < l.n → KsAt W l i (ks i) := by
  have : ∀ i : Nat, ∃ k : Int, i < l.n → KsAt W l i k := fun i => by
    rcases Nat.lt_or_ge i l.n with h1 | h1
    · rcases h.2 with ⟨_, hn, _⟩ | ⟨_, hn⟩ | ⟨hn, b, off, ha, hb, hx⟩
      · omega
      · omega
      · obtain ⟨e, he, _⟩ := hx i h1
        exact ⟨e.k, fun _ => ⟨b, off, ha, hb, e, he, rfl⟩⟩
    · exact ⟨0, fun h2 => by omega⟩
  exact Classical.skolem.1 this
theorem PsK.apart {m : Nat} {W : World} {l : Sl} (h : PsK m W l) {X : Nat} (hX : W.heap.size ≤ X) : 0 < l.n → ∀ b off, l.a = some ⟨b, off, none⟩ → b ≠ X := fun hn b off ha => by
  rcases h.2 with ⟨_, hn', _⟩ | ⟨_, hn'⟩ | ⟨_, b', off', ha', hb, _⟩
  · omega
  · omega
  · rw [ha'] at ha
    simp only [Option.some.injEq, Addr.mk.injEq, and_true] at ha
    obtain ⟨rfl, rfl⟩ := ha
    omega
theorem shT_size (k : Int) (t : ByteArray) (ht : t.size ≤ 5000) : (shT k t).size ≤ 9000 := by
  have := digT_size false 10 (kN k)
  unfold shT kT
  simp only [ByteArray.size_append]
  have e1 : (ByteArray.mk #[123]).size = 1 := rfl
  have e2 : (ByteArray.mk #[125]).size = 1 := rfl
  omega
/-- Both sides of one method. -/
def RdC10 (wB : World) (x : Ac) (np : Bool) (v n p s : Int) (T A : ByteArray) (ok : Bool) (p' s' : Int) : Prop :=
  (0 ≤ p' ∧ p' ≤ p + 1 ∧ 0 ≤ s' ∧ s' ≤ s + 1) ∧ (∀ (w0 : World) (X : Nat), Below wB.heap.size wB w0 → wB.heap.size ≤ X → DoC w0 X p s p' s' x np v (mT n) T ok) ∧
  (∀ (W : World) (Y : Nat), Below wB.heap.size wB W → wB.heap.size ≤ Y → Aq W Y p s → Calls Tryd.prog 23 #[.pointer (some ⟨Y, 0, none⟩), .agg x.v.toArray, .bool np] W fun e w' => e = .returned (.string A) ∧ Aq w' Y p' s' ∧ W.grownBy w' (some Y)) ∧
  (∀ W, Calls Tryd.prog 22 #[.agg x.v.toArray, .bool np, .int .i32 v, .string (mT n), .string A] W fun e w' => e = .returned (.tuple #[.string T, .bool ok]) ∧ Below W.heap.size W w')
theorem round_any {m : Nat} {wB : World} {x : Ac} (hP : PsK m wB x.l) (hD : DsK m wB x.p) (hs : SmA x) (np : Bool) (v n p s : Int) (hp : 0 ≤ p) (hp2 : p ≤ 1000) (hs1 : 0 ≤ s) (hs2 : s ≤ 1000) :
    ∃ (T A : ByteArray) (ok : Bool) (p' s' : Int), RdC10 wB x np v n p s T A ok p' s' := by
  obtain ⟨sl, ss⟩ := hs
  have hm := mT_size n
  by_cases k1 : x.k = 1
  · refine ⟨x.t, ⟨#[]⟩, true, p, s, by omega, fun w0 X hB hX W gW qW => do_tells x k1 W qW, fun W Y hB hY qW => doc_none x np (by unfold ndN; rw [if_neg (by omega), if_neg (fun h => by omega)]) W qW, fun W => jdo_1 x np v _ _ k1 W⟩
  by_cases k2 : x.k = 2
  · cases np with
    | true =>
      refine ⟨⟨#[60, 110, 105, 108, 62]⟩, ⟨#[]⟩, false, p, s, by omega, fun w0 X hB hX W gW qW => do_nil x rfl k2 W qW, fun W Y hB hY qW => doc_none x true (by unfold ndN; rw [if_neg (by omega), if_neg (fun h => by cases h.2)]) W qW, fun W => jdo_nil x true v _ _ k2 rfl W⟩
    | false =>
      refine ⟨pnT v (mT n) (shT x.p.k x.p.tx), shT x.p.k x.p.tx, false, p, s + 1, by omega, fun w0 X hB hX W gW qW => ?_, fun W Y hB hY qW => doc_show x false (by unfold ndN; rw [if_neg (by omega), if_pos ⟨k2, rfl⟩]) hs1 (by omega) (by omega) W qW, fun W => jdo_2 x false v _ _ k2 rfl (by omega) (shT_size _ _ (by omega)) W⟩
      exact do_throws x rfl k2 hs1 (by omega) (by omega) (by omega) (w0 := w0) (fun V gV => copied_all m x.p V (hD.up (hB.grown gV hB.size (fun k hk => by cases hk; exact hX)))) W gW qW
  by_cases k3 : x.k = 3
  · obtain ⟨ks, hks⟩ := hP.kinds
    refine ⟨prT x.f ks x.l.n, prT x.f ks x.l.n, true, p + 1, s, by omega, fun w0 X hB hX W gW qW => do_prints x k3 (prints_any hB hX hP hks hp (by omega) (by omega) (by omega)) W gW qW, fun W Y hB hY qW => ?_, fun W => jdo_3 x np v _ _ k3 W⟩
    have hn1 : ndN x.k np = 1 := by unfold ndN; rw [if_pos k3]
    exact doc_print x np ks hn1 hp (by omega) (by omega) (by omega) (hP.apart hY) W (fun i hi => (hks i hi).up hB) qW
  · have ht : thB x = false := by rw [thB_dec]; exact decide_eq_false (by omega)
    exact ⟨⟨#[]⟩, ⟨#[]⟩, false, p, s, by omega, fun w0 X hB hX W gW qW => do_lacks x ht W qW, fun W Y hB hY qW => doc_none x np (by unfold ndN; rw [if_neg (by omega), if_neg (fun h => by omega)]) W qW, fun W => jdo_0 x np v _ _ k1 k2 k3 W⟩
end Go.Proofs.YtbfaapbbhgegiaaDoor
