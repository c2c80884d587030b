/- The document's store. -/
import Derived.Test.YtdedhiipamnahaaYSL
import Derived.Test.YtdedhiipamnahaaQReg
import Derived.OwnWalk
import Derived.Maps.AppendAt
import Derived.Laws.OwnMore
namespace Go.Proofs.Ytdedhiipamnahaa
open Go.RowKit Go.Conc
set_option linter.unusedVariables false
set_option linter.unusedSimpArgs false

def nums (l : List Int) : List Value := l.map (Value.int .i64)
theorem nums_len (l : List Int) : (nums l).length = l.length := by simp [nums]
/-- Below Bd all blocks but those of S are as they were. -/
structure Kd (Bd : Nat) (S : List Nat) (w w' : World) : Prop where
  os : w'.os = w.os
  tape : w'.tape = w.tape
  output : w'.output = w.output
  size : w.heap.size ≤ w'.heap.size
  block : ∀ k, k < Bd → k ∉ S → w'.heap[k]? = w.heap[k]?
theorem Kd.refl (Bd : Nat) (S : List Nat) (w : World) : Kd Bd S w w := ⟨rfl, rfl, rfl, Nat.le_refl _, fun _ _ _ => rfl⟩
theorem Kd.alloc {Bd : Nat} {S : List Nat} {a b : World} (h : Kd Bd S a b) (hb : Bd ≤ b.heap.size) (o : Obj) : Kd Bd S a (b.alloc o) :=
  ⟨h.os, h.tape, h.output, by have := h.size; simp; omega, fun k hk hn => (Below.heap_alloc _ _ _ (Nat.lt_of_lt_of_le hk hb)).trans (h.block k hk hn)⟩
theorem Kd.setCell {Bd : Nat} {S : List Nat} {a b : World} (h : Kd Bd S a b) {p : Addr} (hp : p.block ∈ S) (v : Value) : Kd Bd S a (b.setCell p v) :=
  ⟨h.os, h.tape, h.output, by simpa [World.setCell] using h.size, fun k hk hn => by
    rw [Below.heap_setCell _ _ _ _ (by rintro rfl; exact hn hp)]
    exact h.block k hk hn⟩
theorem Kd.grown {Bd : Nat} {S : List Nat} {a b c : World} {row : Option Nat} (h : Kd Bd S a b) (hb : Bd ≤ b.heap.size) (g : b.grownBy c row) (hr : ∀ k, row = some k → Bd ≤ k) : Kd Bd S a c :=
  ⟨g.os.trans h.os, g.tape.trans h.tape, g.output.trans h.output, Nat.le_trans h.size g.size, fun k hk hn => (g.block k (Nat.lt_of_lt_of_le hk hb) (fun e => by have := hr k e.symm; omega)).trans (h.block k hk hn)⟩
theorem Kd.below {Bd N : Nat} {S : List Nat} {a b c : World} (h : Below N a b) (k : Kd Bd S b c) (hS : ∀ x, x ∈ S → N ≤ x) (hN : N ≤ Bd) : Below N a c :=
  ⟨k.os.trans h.os, k.tape.trans h.tape, k.output.trans h.output, Nat.le_trans h.size k.size, fun i hi => (k.block i (by omega) (fun hm => by have := hS i hm; omega)).trans (h.block i hi)⟩
theorem Bq.keepd {Bd : Nat} {S : List Nat} {w w' : World} {B : Nat} {vs : List Value} (h : Bq w B vs) (k : Kd Bd S w w') (hb : B < Bd) (hB : B ∉ S) : Bq w' B vs := h.same (k.block B hb hB) k.size
theorem Sto.keepd {Bd : Nat} {S : List Nat} {w w' : World} {B c cap : Nat} {l : List Value} {mk : Value} {m : Int} (h : Sto w B c cap l mk m) (k : Kd Bd S w w') (hb : B < Bd) (hcb : c < Bd) (hB : B ∉ S) (hc : c ∉ S) : Sto w' B c cap l mk m := by
  obtain ⟨s, r, hc'⟩ := h.ch
  exact ⟨h.bx.keepd k hb hB, s, r, (k.block c hcb hc).trans hc'⟩
/-- The document's store: its box at R, its list in memory from Bd on. -/
structure Rf (w : World) (Bd R : Nat) (K m : Int) (l : List Int) : Prop where
  ex : ∃ a c, Bq w R [.int .i64 K, .int .i64 m, .slice a l.length c] ∧ w.ownsRow Bd 3 1 (.slice a l.length c) l.length (nums l)
  lt : R < Bd
theorem Rf.keep {S : List Nat} {w w' : World} {Bd R : Nat} {K m : Int} {l : List Int} (h : Rf w Bd R K m l) (k : Ko S w w') (hR : R ∉ S) (hS : ∀ x, x ∈ S → x < Bd) : Rf w' Bd R K m l := by
  obtain ⟨⟨a, c, hb, ho⟩, lt⟩ := h
  refine ⟨⟨a, c, hb.keep k hR, ?_⟩, lt⟩
  refine ⟨ho.1, ?_⟩
  rcases ho.2 with hn | ⟨g, cap, cur, hv, hbs, hg, rest⟩
  · exact .inl hn
  · exact .inr ⟨g, cap, cur, hv, hbs, (k.block g (Array.getElem?_eq_some_iff.1 hg).1 (fun hm => by have := hS g hm; omega)).trans hg, rest⟩
theorem info13 : ∃ i, Try.prog.info? 3 = some i ∧ i.zero = some (.int .i64 0) ∧ i.size = 1 ∧ i.bytes = 8 := by
  have h : (Try.prog.info? 3).map (fun i => (i.zero, i.size, i.bytes)) = some (some (.int .i64 0), 1, 8) := by kernel_rfl
  obtain ⟨i, hi, hb⟩ := Option.map_eq_some_iff.1 h
  simp only [Prod.mk.injEq] at hb
  exact ⟨i, hi, hb⟩
theorem rfNew_any (n : Int) (w : World) : Calls Try.prog 11 #[.int .i64 n] w fun e w' => e = .returned (.pointer (some ⟨w.heap.size, 0, none⟩)) ∧ w' = w.alloc (.cells #[.int .i64 (capN n), .int .i64 0, .slice none 0 0] 36) := by
  have hK := capN_eq n
  generalize capN n = K at *
  have HK : Hid ((K : Int) = min (max n 0) 64) := hK
  clear hK
  rcases Int.lt_or_le n 0 with h1 | h1
  · obtain rfl : K = 0 := by have := HK.out; omega
    clear HK
    go_enter Try.func11, Try.ntmps11
    go_wp2
    go_ret
    exact ⟨rfl, rfl⟩
  · rcases Int.lt_or_le 64 n with h2 | h2
    · obtain rfl : K = 64 := by have := HK.out; omega
      clear HK
      go_enter Try.func11, Try.ntmps11
      go_wp2
      go_ret
      exact ⟨rfl, rfl⟩
    · obtain rfl : n = (K : Int) := by have := HK.out; omega
      clear HK
      go_enter Try.func11, Try.ntmps11
      go_wp2
      go_ret
      exact ⟨rfl, rfl⟩
set_option maxRecDepth 1000000 in
set_option maxHeartbeats 2000000 in
theorem rfPut_full {w : World} {Bd R : Nat} {K m : Int} {l : List Int} (h : Rf w Bd R K m l) (x : Int) (hk : K ≤ l.length) (hl : l.length ≤ 64) :
    Calls Try.prog 14 #[.pointer (some ⟨R, 0, none⟩), .int .i64 x] w fun e w' => e = .returned (.bool false) ∧ Below w.heap.size w w' := by
  obtain ⟨⟨a, c, hb, ho⟩, lt⟩ := h
  have f0 : ∀ z : Cl w, z.w.cell? ⟨R, 0, none⟩ = some (.int .i64 K) := fun z => z.cell (hb.c 0 _ rfl)
  have f2 : ∀ z : Cl w, z.w.cell? ⟨R, 2, none⟩ = some (.slice a l.length c) := fun z => z.cell (hb.c 2 _ rfl)
  go_enter Try.func14, Try.ntmps14
  go_upto_region 1 with fail
  refine wp_region_above w (Below.refl _ _) (by kernel_rfl) (by kernel_rfl) ?_
  intro hCl
  repeat (go_big_quiet_step (fail))
  refine wpQuiet_nil ?_
  intro _ hw'
  obtain ⟨y, hx⟩ := hw'
  subst hx
  go_wp2
  go_ret
  exact ⟨rfl, y.below⟩
set_option maxRecDepth 1000000 in
set_option maxHeartbeats 2000000 in
theorem rfPut_room {w : World} {Bd R : Nat} {K m : Int} {l : List Int} (h : Rf w Bd R K m l) (x : Int) (hk : l.length < K) (hl : l.length ≤ 64) (hBd : Bd ≤ w.heap.size) :
    Calls Try.prog 14 #[.pointer (some ⟨R, 0, none⟩), .int .i64 x] w fun e w' => e = .returned (.bool true) ∧ Rf w' Bd R K m (l ++ [x]) ∧ Kd Bd [R] w w' ∧ ∀ k cs t fz, w.heap[k]? = some (.cells cs t fz) → t ≠ 3 → k ≠ R → w'.heap[k]? = w.heap[k]? := by
  obtain ⟨⟨a, c, hb, ho⟩, lt⟩ := h
  obtain ⟨i0, hi, hz0, hz1, hz2⟩ := info13
  have f0 : ∀ z : Cl w, z.w.cell? ⟨R, 0, none⟩ = some (.int .i64 K) := fun z => z.cell (hb.c 0 _ rfl)
  have f2 : ∀ z : Cl w, z.w.cell? ⟨R, 2, none⟩ = some (.slice a l.length c) := fun z => z.cell (hb.c 2 _ rfl)
  have hR := hb.b
  go_enter Try.func14, Try.ntmps14
  go_upto_region 1 with fail
  refine wp_region_above w (Below.refl _ _) (by kernel_rfl) (by kernel_rfl) ?_
  intro hCl
  repeat (go_big_quiet_step (fail))
  refine wpQuiet_nil ?_
  intro _ hw'
  obtain ⟨y, hx⟩ := hw'
  subst hx
  have hby := y.below
  have g2 := f2 y
  have hown : y.w.ownsRow Bd 3 1 (.slice a l.length c) l.length (nums l) := ho.kept (row := none) ⟨hby.os, hby.tape, hby.output, hby.size, fun k hk _ => hby.block k hk⟩ (by
    cases a with
    | none => exact .inl rfl
    | some a => exact .inr (by simp [Value.ownBlock]))
  have hb2 : Bq y.w R [.int .i64 K, .int .i64 m, .slice a l.length c] := hb.same (hby.block R hR) hby.size
  have hKd : Kd Bd [R] w y.w := ⟨hby.os, hby.tape, hby.output, hby.size, fun k hk _ => hby.block k (by omega)⟩
  have hBd2 : Bd ≤ y.w.heap.size := Nat.le_trans hBd hby.size
  go_wp2_with (at_builtin; refine wpList_append_own_at _ rfl _ _ 34 rfl Bd 3 i0 _ 1 8 Try.underlying34 hi hz0 hz1 hz2 rfl (by decide) _ _ _ rfl (hown.alloc _) ⟨y.w.heap.size, 0, none⟩ 1 1 [.int .i64 x] rfl rfl ?c1 ?c2 ?c3 ?c4 ?c5 ?_)
  case c1 =>
    intro j u hj
    match j, hj with
    | 0, hj => simp at hj; subst hj; simp [Addr.add]
  case c2 => intro u hu; simp at hu; subst hu; rfl
  case c3 => unfold maxLen; omega
  case c4 => omega
  case c5 => simp; omega
  intro v3 w3 o3 g3 _ _
  have hal : Kd Bd [R] w (y.w.alloc (.cells #[.int .i64 x] 3)) := hKd.alloc hBd2 _
  have hba : Bd ≤ (y.w.alloc (.cells #[.int .i64 x] 3)).heap.size := by simp; omega
  have hrow : ∀ k, (Value.slice a l.length c).ownBlock = some k → Bd ≤ k := fun k hk => (hown.lt k hk).1
  have k3 : Kd Bd [R] w w3 := hal.grown hba g3 hrow
  have q3 : Bq w3 R [.int .i64 K, .int .i64 m, .slice a l.length c] := (hb2.same (Below.heap_alloc _ _ _ hb2.b) (by simp)).same (g3.block R (by simp; have := hb2.b; omega) (fun e => by have := hrow R e.symm; omega)) g3.size
  obtain ⟨a3, c3, rfl⟩ : ∃ a3 c3, v3 = .slice a3 (l.length + 1) c3 := by
    rcases o3.2 with ⟨-, h0⟩ | ⟨g, cap, cur, hv, -⟩
    · omega
    · exact ⟨_, _, hv⟩
  have z3 := q3.z 2
  have e3 := q3.c 2 _ rfl
  have hoth : ∀ k cs t fz, w.heap[k]? = some (.cells cs t fz) → t ≠ 3 → k ≠ R → ∀ v, (w3.setCell ⟨R, 2, none⟩ v).heap[k]? = w.heap[k]? := by
    intro k cs t fz hk ht hkR v
    have hlt : k < w.heap.size := (Array.getElem?_eq_some_iff.1 hk).1
    have hy : y.w.heap[k]? = w.heap[k]? := hby.block k hlt
    have hlty : k < y.w.heap.size := Nat.lt_of_lt_of_le hlt hby.size
    rw [Below.heap_setCell _ _ _ _ hkR, g3.block k (by simp; omega) (fun e => ?_), Below.heap_alloc _ _ _ hlty, hy]
    rcases hown.2 with ⟨h0, -⟩ | ⟨g, cap, cur, hv, -, hg, -⟩
    · rw [h0] at e; simp [Value.ownBlock] at e
    · rw [hv] at e
      simp [Value.ownBlock] at e
      subst e
      rw [hy, hk] at hg
      simp at hg
      exact ht hg.2.1
  clear g2 hb2 hown
  go_wp2
  go_ret
  refine ⟨rfl, ⟨⟨a3, c3, ?_, ?_⟩, lt⟩, k3.setCell (by simp) _, fun k cs t fz h1 h2 h3 => hoth k cs t fz h1 h2 h3 _⟩
  · have := q3.set 2 (by simp) (.slice a3 (l.length + 1) c3)
    simpa using this
  · have := ownsRow_setCell_below o3 (a := ⟨R, 2, none⟩) lt (.slice a3 (l.length + 1) c3)
    simpa [nums] using this
set_option maxRecDepth 1000000 in
set_option maxHeartbeats 2000000 in
theorem rfGet_none {w : World} {Bd R : Nat} {K m : Int} (h : Rf w Bd R K m []) (h0 : 0 ≤ m) (h1 : m < 9223372036854775807) :
    Calls Try.prog 16 #[.pointer (some ⟨R, 0, none⟩)] w fun e w' => e = .returned (.tuple #[.int .i64 0, .bool false]) ∧ Rf w' Bd R K (m + 1) [] ∧ Kd Bd [R] w w' := by
  obtain ⟨⟨a, c, hb, ho⟩, lt⟩ := h
  have c1 := hb.c 1 _ rfl
  have c2 := hb.c 2 _ rfl
  have z1 := hb.z 1
  simp only [List.length_nil] at c2
  go_enter Try.func16, Try.ntmps16
  go_wp2
  go_ret2
  refine ⟨rfl, ⟨⟨a, c, hb.set 1 (by simp) _, ownsRow_setCell_below ho (a := ⟨R, 1, none⟩) lt _⟩, lt⟩, (Kd.refl _ _ _).setCell (by simp) _⟩
set_option maxRecDepth 1000000 in
set_option maxHeartbeats 2000000 in
theorem rfGet_some {w : World} {Bd R : Nat} {K m : Int} {x : Int} {l : List Int} (h : Rf w Bd R K m (x :: l)) (hl : l.length ≤ 64) (hBd : Bd ≤ w.heap.size) :
    Calls Try.prog 16 #[.pointer (some ⟨R, 0, none⟩)] w fun e w' => e = .returned (.tuple #[.int .i64 x, .bool true]) ∧ Rf w' Bd R K m l ∧ Kd Bd [R] w w' := by
  obtain ⟨⟨a, c, hb, ho⟩, lt⟩ := h
  obtain ⟨i0, hi, hz0, hz1, hz2⟩ := info13
  obtain ⟨g, rfl⟩ : ∃ g, a = some ⟨g, 0, none⟩ := by
    rcases ho.2 with ⟨-, h0⟩ | ⟨g, cap, cur, hv, -⟩
    · simp at h0
    · simp at hv; exact ⟨_, hv.1⟩
  have hlen : (x :: l).length = l.length + 1 := rfl
  rw [hlen] at hb ho
  have hR := hb.b
  have c2 := hb.c 2 _ rfl
  have z2 := hb.z 2
  have cg : w.cell? ⟨g, 0, none⟩ = some (.int .i64 x) := by have := ho.cells (g := g) rfl 0 (.int .i64 x) rfl; simpa [Addr.add] using this
  have hrest : ∀ (j : Nat) u, (nums l)[j]? = some u → w.cell? ⟨g, j + 1, none⟩ = some u := fun j u hj => by
    have := ho.cells (g := g) rfl (j + 1) u (by simpa [nums] using hj)
    simpa [Addr.add] using this
  have hcap : l.length + 1 ≤ c := by
    rcases ho.2 with ⟨-, h0⟩ | ⟨g, cap, cur, hv, -, -, hc, -⟩
    · simp at h0
    · simp at hv; omega
  have hcm : c ≤ maxLen := by
    rcases ho.2 with ⟨-, h0⟩ | ⟨g, cap, cur, hv, -, -, -, hc, -⟩
    · simp at h0
    · simp at hv; omega
  have hlI : (l.length : Int) ≤ 64 := by omega
  have hne0 : ((l.length : Int) + 1 == 0) = false := by simp; omega
  have hown : (w.alloc (.cells #[] 3)).ownsRow Bd 3 1 (.slice (some ⟨w.heap.size, 0, none⟩) 0 0) 0 [] := ⟨by simp, .inr ⟨w.heap.size, 0, #[], rfl, hBd, heap_alloc_new w _, Nat.le_refl _, Nat.zero_le _, by simp, by simp⟩⟩
  have hcont : ∀ (v3 : Value) (w3 : World), w3.ownsRow Bd 3 1 v3 l.length (nums l) → (w.alloc (.cells #[] 3)).grownBy w3 (Value.slice (some ⟨w.heap.size, 0, none⟩) 0 0).ownBlock →
      ∃ a3 c3, v3 = .slice a3 l.length c3 ∧ w3.cell? ⟨R, 2, none⟩ = some (.slice (some ⟨g, 0, none⟩) (l.length + 1) c) ∧ w3.frozen? ⟨R, 2, none⟩ = false ∧ Rf (w3.setCell ⟨R, 2, none⟩ (.slice a3 l.length c3)) Bd R K m l ∧ Kd Bd [R] w (w3.setCell ⟨R, 2, none⟩ (.slice a3 l.length c3)) := by
    intro v3 w3 o3 g3
    have hal : Kd Bd [R] w (w.alloc (.cells #[] 3)) := (Kd.refl _ _ _).alloc hBd _
    have hba : Bd ≤ (w.alloc (.cells #[] 3)).heap.size := by simp; omega
    have hrow : ∀ k, (Value.slice (some ⟨w.heap.size, 0, none⟩) 0 0).ownBlock = some k → Bd ≤ k := fun k hk => by simp [Value.ownBlock] at hk; omega
    have k3 : Kd Bd [R] w w3 := hal.grown hba g3 hrow
    have q3 : Bq w3 R [.int .i64 K, .int .i64 m, .slice (some ⟨g, 0, none⟩) (l.length + 1) c] := (hb.same (Below.heap_alloc _ _ _ hb.b) (by simp)).same (g3.block R (by simp; omega) (fun e => by have := hrow R e.symm; omega)) g3.size
    obtain ⟨a3, c3, rfl⟩ : ∃ a3 c3, v3 = .slice a3 l.length c3 := by
      rcases o3.2 with ⟨h0, h1⟩ | ⟨g, cap, cur, hv, -⟩
      · exact ⟨none, 0, by rw [h0, h1]⟩
      · exact ⟨_, _, hv⟩
    refine ⟨a3, c3, rfl, q3.c 2 _ rfl, q3.z 2, ⟨⟨a3, c3, q3.set 2 (by simp) _, ownsRow_setCell_below o3 (a := ⟨R, 2, none⟩) lt _⟩, lt⟩, k3.setCell (by simp) _⟩
  by_cases hc1 : c = 1
  · subst hc1
    obtain rfl : l = [] := List.eq_nil_of_length_eq_zero (by omega)
    clear hb ho
    go_enter Try.func16, Try.ntmps16
    go_wp2_with (at_builtin; refine wpList_append_own_at _ rfl _ _ 34 rfl Bd 3 i0 _ 1 8 Try.underlying34 hi hz0 hz1 hz2 rfl (by decide) _ _ _ rfl hown ⟨g, 0, none⟩ 0 0 (nums []) rfl rfl ?c1 ?c2 ?c3 ?c4 ?c5 ?_)
    case c1 => intro j u hj; simp [nums] at hj
    case c2 => intro u hu; simp [nums] at hu
    case c3 => unfold maxLen; omega
    case c4 => omega
    case c5 => simp; omega
    intro v3 w3 o3 g3 _ _
    obtain ⟨a3, c3, rfl, e3, z3, r3, k3⟩ := hcont v3 w3 o3 g3
    clear hcont o3 g3
    go_wp2
    go_ret2
    exact ⟨rfl, r3, k3⟩
  · clear hb ho
    go_enter Try.func16, Try.ntmps16
    go_wp2_with (at_builtin; refine wpList_append_own_at _ rfl _ _ 34 rfl Bd 3 i0 _ 1 8 Try.underlying34 hi hz0 hz1 hz2 rfl (by decide) _ _ _ rfl hown ⟨g, 1, none⟩ l.length (c - 1) (nums l) rfl (by rw [nums_len, Nat.mul_one]) ?c1 ?c2 ?c3 ?c4 ?c5 ?_)
    case c1 =>
      intro j u hj
      have := hrest j u hj
      have hlt : g < w.heap.size := World.block_lt_of_cell? w _ cg
      have ea : (⟨g, 1, none⟩ : Addr).add j = ⟨g, j + 1, none⟩ := by
        by_cases h0 : j = 0
        · subst h0; simp [Addr.add]
        · simp [Addr.add, h0, Nat.add_comm]
      rw [ea, World.cell?_of_block (w := w) (a := ⟨g, j + 1, none⟩) (Below.heap_alloc _ _ _ hlt)]
      exact this
    case c2 => intro u hu; simp [nums] at hu; obtain ⟨_, _, rfl⟩ := hu; rfl
    case c3 => unfold maxLen; omega
    case c4 => omega
    case c5 => simp; omega
    intro v3 w3 o3 g3 _ _
    obtain ⟨a3, c3, rfl, e3, z3, r3, k3⟩ := hcont v3 w3 o3 g3
    clear hcont o3 g3
    go_wp2
    go_ret2
    exact ⟨rfl, r3, k3⟩
end Go.Proofs.Ytdedhiipamnahaa
