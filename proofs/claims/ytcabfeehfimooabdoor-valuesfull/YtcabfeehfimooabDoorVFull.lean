/- The descriptors of the law ValuesFull: a slice of pointers to pointers .. to a text, and nothings. -/
import Derived.Test.YtcabfeehfimooabDoorVPure
import Derived.Test.YtcabfeehfimooabDoorVLives
import Derived.MapKept
namespace Go.Proofs.YtcabfeehfimooabDoor
open Go.RowKit
set_option linter.unusedVariables false
set_option linter.unusedSimpArgs false

/-- So many pointers to a text; a slice of one and of nothings. -/
def Pn (T : ByteArray) : Nat → D
  | 0 => D0 16 0 0 0 ⟨#[]⟩ T
  | j + 1 => ⟨22, ⟨#[]⟩, 0, 0, ⟨#[]⟩, [], [Pn T j], 0⟩
def N0 : D := D0 0 0 0 0 ⟨#[]⟩ ⟨#[]⟩
def Sn (m : Nat) (x : D) : D := ⟨20, ⟨#[]⟩, 0, 0, ⟨#[]⟩, [], x :: List.replicate m N0, 0⟩
theorem pn_pre (T : ByteArray) : ∀ (j : Nat) (k : Int), (pre (Pn T j) k).length = j + 1 ∧ (∀ p ∈ pre (Pn T j) k, p.2 ≤ k + j ∧ (0 ≤ p.1.kind ∧ p.1.kind ≤ 22) ∧ p.1.kind ≠ 18 ∧ p.1.kind ≠ 21 ∧ p.1.parts.length ≤ 1000 ∧ frmB p.1 = true ∧ (T.size ≤ 1024 → fitsB p.1 = true)) ∧ ∃ p ∈ pre (Pn T j) k, p.2 = k + j ∧ (1024 < T.size → fitsB p.1 = false)
  | 0, k => by
    have e : pre (Pn T 0) k = [(D0 16 0 0 0 ⟨#[]⟩ T, k)] := pre0 16 0 0 0 ⟨#[]⟩ T k
    rw [e]
    refine ⟨rfl, fun p hp => ?_, _, List.mem_cons_self .., by simp, fun h => ?_⟩
    · rcases List.mem_singleton.1 hp with rfl
      refine ⟨by simp, by show (0 : Int) ≤ 16 ∧ (16 : Int) ≤ 22; omega, by show (16 : Int) ≠ 18; decide, by show (16 : Int) ≠ 21; decide, by simp, ?_, fun h => ?_⟩
      · simp [frmB, typedB, allB, sz_nil]
      · simp [fitsB, h]
    · have h2 : ¬ T.size ≤ 1024 := by omega
      simp [fitsB, h2]
  | j + 1, k => by
    obtain ⟨h1, h2, q, hq, h3, h4⟩ := pn_pre T j (k + 1)
    have e : pre (Pn T (j + 1)) k = (Pn T (j + 1), k) :: pre (Pn T j) (k + 1) := by
      rw [pre_eq]
      show _ :: preAll [Pn T j] (k + 1) = _
      simp [preAll]
    rw [e]
    refine ⟨by rw [List.length_cons, h1], fun p hp => ?_, q, List.mem_cons_of_mem _ hq, by rw [h3]; push_cast; omega, h4⟩
    rcases List.mem_cons.1 hp with rfl | hp
    · refine ⟨by show k ≤ _; omega, by show (0 : Int) ≤ 22 ∧ (22 : Int) ≤ 22; omega, by show (22 : Int) ≠ 18; decide, by show (22 : Int) ≠ 21; decide, by show 1 ≤ 1000; omega, ?_, fun _ => ?_⟩
      · simp [Pn, frmB, typedB, allB, sz_nil]
      · simp [Pn, fitsB]
    · obtain ⟨g1, g2⟩ := h2 p hp
      exact ⟨by push_cast at *; omega, g2⟩
theorem n0_pre (k : Int) : ∀ m, preAll (List.replicate m N0) k = List.replicate m (N0, k)
  | 0 => rfl
  | m + 1 => by
    have := n0_pre k m
    unfold preAll at this ⊢
    rw [List.replicate_succ, List.flatMap_cons, this, List.replicate_succ]
    have e : pre N0 k = [(N0, k)] := pre0 0 0 0 0 ⟨#[]⟩ ⟨#[]⟩ k
    rw [e]; rfl
theorem sn_pre (m : Nat) (x : D) : pre (Sn m x) 0 = (Sn m x, 0) :: (pre x 1 ++ List.replicate m (N0, 1)) := by
  rw [pre_eq]
  have e : preAll (x :: List.replicate m N0) 1 = pre x 1 ++ List.replicate m (N0, 1) := by
    rw [← n0_pre 1 m]; rfl
  show _ :: preAll (x :: List.replicate m N0) (0 + 1) = _
  rw [show (0 : Int) + 1 = 1 from rfl, e]
theorem sn_all (m j : Nat) (T : ByteArray) (hm : m ≤ 80) : ∀ p ∈ pre (Sn m (Pn T j)) 0, p.2 ≤ 1 + j ∧ (0 ≤ p.1.kind ∧ p.1.kind ≤ 22) ∧ p.1.kind ≠ 18 ∧ p.1.kind ≠ 21 ∧ p.1.parts.length ≤ 1000 ∧ frmB p.1 = true ∧ (T.size ≤ 1024 → fitsB p.1 = true) := by
  rw [sn_pre]
  obtain ⟨h1, h2, -⟩ := pn_pre T j 1
  intro p hp
  rcases List.mem_cons.1 hp with rfl | hp
  · refine ⟨by show (0 : Int) ≤ _; omega, by show (0 : Int) ≤ 20 ∧ (20 : Int) ≤ 22; omega, by show (20 : Int) ≠ 18; decide, by show (20 : Int) ≠ 21; decide, by show (Pn T j :: List.replicate m N0).length ≤ 1000; simp; omega, ?_, fun _ => ?_⟩
    · simp [Sn, frmB, typedB, allB, sz_nil]
    · simp [Sn, fitsB]
  · rcases List.mem_append.1 hp with hp | hp
    · exact h2 p hp
    · obtain ⟨-, rfl⟩ := List.mem_replicate.1 hp
      refine ⟨by show (1 : Int) ≤ _; omega, by decide, by decide, by decide, by show 0 ≤ 1000; omega, ?_, fun _ => ?_⟩
      · simp [N0, frmB]
      · simp [N0, fitsB]
theorem sn_chk (m j : Nat) (T : ByteArray) (hm : m ≤ 80) : chk0 (Sn m (Pn T j)) = if 64 < m + j + 2 ∨ 1024 < T.size then 2 else if 8 ≤ j + 1 then 6 else 0 := by
  have hall := sn_all m j T hm
  obtain ⟨h1, -, q, hq, h3, h4⟩ := pn_pre T j 1
  have hqS : q ∈ pre (Sn m (Pn T j)) 0 := by rw [sn_pre]; exact List.mem_cons_of_mem _ (List.mem_append_left _ hq)
  have hlen : (pre (Sn m (Pn T j)) 0).length = m + j + 2 := by rw [sn_pre, List.length_cons, List.length_append, h1, List.length_replicate]; omega
  rw [chk0_eq]
  have e1 : (64 < (pre (Sn m (Pn T j)) 0).length ∨ ∃ p ∈ pre (Sn m (Pn T j)) 0, fitsB p.1 = false) ↔ (64 < m + j + 2 ∨ 1024 < T.size) := by
    rw [hlen]
    constructor
    · rintro (h | ⟨p, hp, h⟩)
      · exact .inl h
      · right
        rcases Nat.lt_or_ge 1024 T.size with h5 | h5
        · exact h5
        · have := (hall p hp).2.2.2.2.2.2 h5
          rw [h] at this; cases this
    · rintro (h | h)
      · exact .inl h
      · exact .inr ⟨q, hqS, h4 h⟩
  have e2 : (∃ p ∈ pre (Sn m (Pn T j)) 0, 8 ≤ p.2) ↔ 8 ≤ j + 1 := by
    constructor
    · rintro ⟨p, hp, h⟩
      have := (hall p hp).1
      omega
    · intro h
      exact ⟨q, hqS, by omega⟩
  have e3 : ¬ ∃ p ∈ pre (Sn m (Pn T j)) 0, ¬ (0 ≤ p.1.kind ∧ p.1.kind ≤ 22) := fun ⟨p, hp, h⟩ => h (hall p hp).2.1
  have e4 : ¬ ∃ p ∈ pre (Sn m (Pn T j)) 0, frmB p.1 = false := fun ⟨p, hp, h⟩ => by have := (hall p hp).2.2.2.2.2.1; rw [h] at this; cases this
  simp only [e1, e2, if_neg e3, if_neg e4]
/-- Build of it. -/
theorem full_build (n m j : Nat) (T : ByteArray) (nv pv : Value) (w : World) (hr : RdC n w nv pv (Sn m (Pn T j))) (hn : n ≤ 1000) (hm : m ≤ 80) :
    Calls Tryd.prog 7 #[DV (Sn m (Pn T j)) nv pv] w fun e w' => Below w.heap.size w w' ∧
      ((chk0 (Sn m (Pn T j)) = 0 ∧ ∃ t x, e = .returned (.tuple #[.iface t x, .int .i64 0])) ∨ (chk0 (Sn m (Pn T j)) ≠ 0 ∧ e = .returned (.tuple #[.nilIface, .int .i64 (chk0 (Sn m (Pn T j)))]))) := by
  refine (build_any n (Sn m (Pn T j)) nv pv w hr hn False (fun _ v => ∃ t x, v = .iface t x) ?_).mono ?_
  · intro _ W hW _
    refine (made_plain (fun _ => []) n (Sn m (Pn T j)) ?_ w nv pv ⟨W, hW⟩ hr).mono ?_
    · intro y hy
      rw [← pre_nodes _ 0] at hy
      obtain ⟨p, hp, rfl⟩ := List.mem_map.1 hy
      obtain ⟨-, h1, h2, h3, h4, -⟩ := sn_all m j T hm p hp
      exact ⟨h1.1, h1.2, h2, h3, h4⟩
    · rintro e W' ⟨hb, (⟨-, t, y, rfl, -⟩ | ⟨h, -⟩)⟩
      · exact ⟨hb, .inl ⟨id, t, y, rfl, fun _ _ => ⟨t, y, rfl⟩⟩⟩
      · cases h
  · rintro e w' ⟨hb, (⟨h0, -, v, rfl, -, t, x, rfl⟩ | ⟨-, hF, -⟩ | ⟨hne, rfl⟩)⟩
    · exact ⟨hb, .inl ⟨h0, t, x, rfl⟩⟩
    · exact hF.elim
    · exact ⟨hb, .inr ⟨hne, rfl⟩⟩

/-- Eight cells written. -/
def ch8 (V : World) (b : Nat) (y0 y1 y2 y3 y4 y5 y6 y7 : Value) : World := ((((((((V.setCell ⟨b, 0, none⟩ y0).setCell ⟨b, 1, none⟩ y1).setCell ⟨b, 2, none⟩ y2).setCell ⟨b, 3, none⟩ y3).setCell ⟨b, 4, none⟩ y4).setCell ⟨b, 5, none⟩ y5).setCell ⟨b, 6, none⟩ y6).setCell ⟨b, 7, none⟩ y7)
theorem ch8_block (V : World) (b : Nat) (y0 y1 y2 y3 y4 y5 y6 y7 : Value) {k : Nat} (h : k ≠ b) : (ch8 V b y0 y1 y2 y3 y4 y5 y6 y7).heap[k]? = V.heap[k]? := by
  unfold ch8
  rw [Below.heap_setCell _ _ _ _ h, Below.heap_setCell _ _ _ _ h, Below.heap_setCell _ _ _ _ h, Below.heap_setCell _ _ _ _ h, Below.heap_setCell _ _ _ _ h, Below.heap_setCell _ _ _ _ h, Below.heap_setCell _ _ _ _ h, Below.heap_setCell _ _ _ _ h]
theorem ch8_size (V : World) (b : Nat) (y0 y1 y2 y3 y4 y5 y6 y7 : Value) : (ch8 V b y0 y1 y2 y3 y4 y5 y6 y7).heap.size = V.heap.size := by unfold ch8; simp
theorem ch8_frozen (V : World) (b : Nat) (y0 y1 y2 y3 y4 y5 y6 y7 : Value) (a : Addr) : (ch8 V b y0 y1 y2 y3 y4 y5 y6 y7).frozen? a = V.frozen? a := by
  unfold ch8
  rw [World.frozen?_setCell, World.frozen?_setCell, World.frozen?_setCell, World.frozen?_setCell, World.frozen?_setCell, World.frozen?_setCell, World.frozen?_setCell, World.frozen?_setCell]
theorem set8c {V : World} {b : Nat} {x0 x1 x2 x3 x4 x5 x6 x7 : Value} (h0 : V.cell? ⟨b, 0, none⟩ = some x0) (h1 : V.cell? ⟨b, 1, none⟩ = some x1) (h2 : V.cell? ⟨b, 2, none⟩ = some x2) (h3 : V.cell? ⟨b, 3, none⟩ = some x3) (h4 : V.cell? ⟨b, 4, none⟩ = some x4) (h5 : V.cell? ⟨b, 5, none⟩ = some x5) (h6 : V.cell? ⟨b, 6, none⟩ = some x6) (h7 : V.cell? ⟨b, 7, none⟩ = some x7) (y0 y1 y2 y3 y4 y5 y6 y7 : Value) :
    (ch8 V b y0 y1 y2 y3 y4 y5 y6 y7).cell? ⟨b, 0, none⟩ = some y0 ∧ (ch8 V b y0 y1 y2 y3 y4 y5 y6 y7).cell? ⟨b, 1, none⟩ = some y1 ∧ (ch8 V b y0 y1 y2 y3 y4 y5 y6 y7).cell? ⟨b, 2, none⟩ = some y2 ∧ (ch8 V b y0 y1 y2 y3 y4 y5 y6 y7).cell? ⟨b, 3, none⟩ = some y3 ∧ (ch8 V b y0 y1 y2 y3 y4 y5 y6 y7).cell? ⟨b, 4, none⟩ = some y4 ∧ (ch8 V b y0 y1 y2 y3 y4 y5 y6 y7).cell? ⟨b, 5, none⟩ = some y5 ∧ (ch8 V b y0 y1 y2 y3 y4 y5 y6 y7).cell? ⟨b, 6, none⟩ = some y6 ∧ (ch8 V b y0 y1 y2 y3 y4 y5 y6 y7).cell? ⟨b, 7, none⟩ = some y7 := set8 h0 h1 h2 h3 h4 h5 h6 h7 y0 y1 y2 y3 y4 y5 y6 y7
theorem ch8_below {B : Nat} {w V : World} {b : Nat} {y0 y1 y2 y3 y4 y5 y6 y7 : Value} (h : Below B w V) (hb : B ≤ b) : Below B w (ch8 V b y0 y1 y2 y3 y4 y5 y6 y7) := set8_below h hb
/-- The box q holds the descriptor x, whose parts lie in other blocks. -/
def FB (w : World) (q : Nat) (x : D) (j : Nat) (W : World) (pa : Option Addr) (pc : Nat) : Prop :=
  At8 W q 0 x (.slice none 0 0) (.slice pa x.parts.length pc) ∧ (∀ i, W.frozen? ⟨q, i, none⟩ = false) ∧ RdS (j + 1) (fun b => w.heap.size ≤ b ∧ b ≠ q) W (.slice none 0 0) (.slice pa x.parts.length pc) x ∧ Below w.heap.size w W
theorem FB.wrap {w W : World} {q j : Nat} {x y : D} {pa : Option Addr} {pc : Nat} (h : FB w q x j W pa pc) (hq : w.heap.size ≤ q) (hn : y.names = []) (hp : y.parts = [x]) (hf : Fit y) :
    FB w q y (j + 1) ((ch8 W q (.int .i64 y.kind) (.string y.ty) (.int .u64 y.bits) (.int .u64 y.imag) (.string y.text) (.slice none 0 0) (.slice (some ⟨W.heap.size, 0, none⟩) 1 1) (.int .i64 y.hook)).alloc (.cells #[.int .i64 x.kind, .string x.ty, .int .u64 x.bits, .int .u64 x.imag, .string x.text, .slice none 0 0, .slice pa x.parts.length pc, .int .i64 x.hook] 26)) (some ⟨W.heap.size, 0, none⟩) 1 := by
  obtain ⟨⟨c0, c1, c2, c3, c4, c5, c6, c7⟩, hfz, hrd, hbl⟩ := h
  have hqs : q < W.heap.size := lt_of_cell c0
  have hws := hbl.size
  obtain ⟨r0, r1, r2, r3, r4, r5, r6, r7⟩ := set8c c0 c1 c2 c3 c4 c5 c6 c7 (.int .i64 y.kind) (.string y.ty) (.int .u64 y.bits) (.int .u64 y.imag) (.string y.text) (.slice none 0 0) (.slice (some ⟨W.heap.size, 0, none⟩) 1 1) (.int .i64 y.hook)
  have hsz := ch8_size W q (.int .i64 y.kind) (.string y.ty) (.int .u64 y.bits) (.int .u64 y.imag) (.string y.text) (.slice none 0 0) (.slice (some ⟨W.heap.size, 0, none⟩) 1 1) (.int .i64 y.hook)
  have hbk : ∀ k, k ≠ q → _ := fun k hk => ch8_block W q (.int .i64 y.kind) (.string y.ty) (.int .u64 y.bits) (.int .u64 y.imag) (.string y.text) (.slice none 0 0) (.slice (some ⟨W.heap.size, 0, none⟩) 1 1) (.int .i64 y.hook) hk
  have hvf : ∀ i, _ := fun i => (ch8_frozen W q (.int .i64 y.kind) (.string y.ty) (.int .u64 y.bits) (.int .u64 y.imag) (.string y.text) (.slice none 0 0) (.slice (some ⟨W.heap.size, 0, none⟩) 1 1) (.int .i64 y.hook) ⟨q, i, none⟩).trans (hfz i)
  have hbw : Below w.heap.size w _ := ch8_below (y0 := .int .i64 y.kind) (y1 := .string y.ty) (y2 := .int .u64 y.bits) (y3 := .int .u64 y.imag) (y4 := .string y.text) (y5 := .slice none 0 0) (y6 := .slice (some ⟨W.heap.size, 0, none⟩) 1 1) (y7 := .int .i64 y.hook) hbl hq
  generalize ch8 W q (.int .i64 y.kind) (.string y.ty) (.int .u64 y.bits) (.int .u64 y.imag) (.string y.text) (.slice none 0 0) (.slice (some ⟨W.heap.size, 0, none⟩) 1 1) (.int .i64 y.hook) = V at *
  have hlen : y.parts.length = 1 := by rw [hp]; rfl
  have hnl : y.names.length = 0 := by rw [hn]; rfl
  have hup : Below V.heap.size V (V.alloc (.cells #[.int .i64 x.kind, .string x.ty, .int .u64 x.bits, .int .u64 x.imag, .string x.text, .slice none 0 0, .slice pa x.parts.length pc, .int .i64 x.hook] 26)) := (Below.refl _ _).alloc (Nat.le_refl _) _
  have hcl : At8 (V.alloc (.cells #[.int .i64 x.kind, .string x.ty, .int .u64 x.bits, .int .u64 x.imag, .string x.text, .slice none 0 0, .slice pa x.parts.length pc, .int .i64 x.hook] 26)) V.heap.size 0 x (.slice none 0 0) (.slice pa x.parts.length pc) := by
    refine ⟨?_, ?_, ?_, ?_, ?_, ?_, ?_, ?_⟩
    all_goals simp [go_sem]
  rw [hsz] at hcl
  have hkept : Kept (fun b => w.heap.size ≤ b ∧ b ≠ q) (fun b => w.heap.size ≤ b ∧ b ≠ q) W (V.alloc (.cells #[.int .i64 x.kind, .string x.ty, .int .u64 x.bits, .int .u64 x.imag, .string x.text, .slice none 0 0, .slice pa x.parts.length pc, .int .i64 x.hook] 26)) := by
    intro b hb hl
    refine ⟨hb, fun o => ?_⟩
    rw [hup.cell (p := ⟨b, o, none⟩) (by show b < V.heap.size; omega)]
    exact World.cell?_of_block (w := W) (a := ⟨b, o, none⟩) (hbk b hb.2)
  generalize (V.alloc (.cells #[.int .i64 x.kind, .string x.ty, .int .u64 x.bits, .int .u64 x.imag, .string x.text, .slice none 0 0, .slice pa x.parts.length pc, .int .i64 x.hook] 26)) = U at *
  unfold FB
  rw [hlen]
  refine ⟨⟨up_cell hup r0, up_cell hup r1, up_cell hup r2, up_cell hup r3, up_cell hup r4, up_cell hup r5, up_cell hup r6, up_cell hup r7⟩, fun i => (hup.frozen (p := ⟨q, i, none⟩) (by show q < V.heap.size; omega)).trans (hvf i), ?_, hbw.trans (hup.mono hbw.size)⟩
  refine ⟨hf, ⟨none, 0, by rw [hnl], by omega, Nat.zero_le _, fun i s hs => by rw [hn] at hs; simp at hs⟩, some ⟨W.heap.size, 0, none⟩, 1, by rw [hlen], by omega, by unfold maxLen; omega, fun i z hz => ?_⟩
  rw [hp] at hz
  match i, hz with
  | 0, hz =>
    obtain rfl : x = z := by simpa using hz
    exact ⟨W.heap.size, 0, _, _, rfl, ⟨hws, by omega⟩, hcl, hrd.turn hkept⟩
  | i + 1, hz => simp at hz

theorem FB.first (w w1 : World) (T : ByteArray) (hb : Below w.heap.size w w1) (hT : T.size ≤ 1100) : FB w w1.heap.size (Pn T 0) 0 (w1.alloc (.cells #[.int .i64 16, .string ⟨#[]⟩, .int .u64 0, .int .u64 0, .string T, .slice none 0 0, .slice none 0 0, .int .i64 0] 26)) none 0 := by
  refine ⟨⟨?_, ?_, ?_, ?_, ?_, ?_, ?_, ?_⟩, fun i => ?_, ?_, hb.alloc hb.size _⟩
  · simp [Pn]
  · simp [Pn]
  · simp [Pn]
  · simp [Pn]
  · simp [Pn]
  · simp [Pn]
  · simp [Pn]
  · simp [Pn]
  · rw [frozen?_alloc_cells]; exact frozen_none _ _ (Nat.le_refl _)
  · refine ⟨⟨by simp [Pn], by simp [Pn], by simp [Pn], by simp [Pn], Nat.zero_le _, by show T.size ≤ maxLen; unfold maxLen; omega⟩, ⟨none, 0, rfl, Nat.le_refl _, Nat.zero_le _, fun i s h => by simp [Pn] at h⟩, none, 0, rfl, Nat.le_refl _, Nat.zero_le _, fun i x h => by simp [Pn] at h⟩
/-- The cells of a descriptor, and of nothing. -/
def cs8 (x : D) (pa : Option Addr) (pc : Nat) : List Value := [.int .i64 x.kind, .string x.ty, .int .u64 x.bits, .int .u64 x.imag, .string x.text, .slice none 0 0, .slice pa x.parts.length pc, .int .i64 x.hook]
def nz8 : List Value := [.int .i64 0, .string ⟨#[]⟩, .int .u64 0, .int .u64 0, .string ⟨#[]⟩, .slice none 0 0, .slice none 0 0, .int .i64 0]
def nzs : Nat → List Value
  | 0 => []
  | k + 1 => nzs k ++ nz8
theorem nzs_len : ∀ k, (nzs k).length = k * 8
  | 0 => rfl
  | k + 1 => by rw [nzs, List.length_append, nzs_len k]; simp [nz8]; omega
theorem nzs_at : ∀ (k i r : Nat), i < k → r < 8 → (nzs k)[i * 8 + r]? = nz8[r]?
  | 0, i, r, h, _ => by omega
  | k + 1, i, r, h, hr => by
    rw [nzs]
    by_cases hi : i < k
    · rw [List.getElem?_append_left (by rw [nzs_len]; omega)]
      exact nzs_at k i r hi hr
    · have : i = k := by omega
      subst this
      rw [List.getElem?_append_right (by rw [nzs_len]; omega), nzs_len]
      congr 1; omega
/-- The box q holds a slice of x and so many nothings, in a row of its own. -/
def RB (w : World) (q : Nat) (x : D) (j : Nat) (pa : Option Addr) (pc : Nat) (W : World) (k : Nat) (ao : Option Addr) (c : Nat) : Prop :=
  At8 W q 0 (Sn k x) (.slice none 0 0) (.slice ao (k + 1) c) ∧ (∀ i, W.frozen? ⟨q, i, none⟩ = false) ∧ W.ownsRow w.heap.size 26 8 (.slice ao (k + 1) c) (k + 1) (cs8 x pa pc ++ nzs k) ∧ Value.ownBlock (.slice ao (k + 1) c) ≠ some q ∧
    RdS (j + 1) (fun b => w.heap.size ≤ b ∧ b ≠ q ∧ Value.ownBlock (.slice ao (k + 1) c) ≠ some b) W (.slice none 0 0) (.slice pa x.parts.length pc) x ∧ Below w.heap.size w W
theorem RB.first {w W : World} {q j : Nat} {x : D} {pa : Option Addr} {pc : Nat} (h : FB w q x j W pa pc) (hq : w.heap.size ≤ q) :
    RB w q x j pa pc ((ch8 W q (.int .i64 20) (.string ⟨#[]⟩) (.int .u64 0) (.int .u64 0) (.string ⟨#[]⟩) (.slice none 0 0) (.slice (some ⟨W.heap.size, 0, none⟩) 1 1) (.int .i64 0)).alloc (.cells #[.int .i64 x.kind, .string x.ty, .int .u64 x.bits, .int .u64 x.imag, .string x.text, .slice none 0 0, .slice pa x.parts.length pc, .int .i64 x.hook] 26)) 0 (some ⟨W.heap.size, 0, none⟩) 1 := by
  obtain ⟨⟨c0, c1, c2, c3, c4, c5, c6, c7⟩, hfz, hrd, hbl⟩ := h
  have hqs : q < W.heap.size := lt_of_cell c0
  have hws := hbl.size
  obtain ⟨r0, r1, r2, r3, r4, r5, r6, r7⟩ := set8c c0 c1 c2 c3 c4 c5 c6 c7 (.int .i64 20) (.string ⟨#[]⟩) (.int .u64 0) (.int .u64 0) (.string ⟨#[]⟩) (.slice none 0 0) (.slice (some ⟨W.heap.size, 0, none⟩) 1 1) (.int .i64 0)
  have hsz := ch8_size W q (.int .i64 20) (.string ⟨#[]⟩) (.int .u64 0) (.int .u64 0) (.string ⟨#[]⟩) (.slice none 0 0) (.slice (some ⟨W.heap.size, 0, none⟩) 1 1) (.int .i64 0)
  have hbk : ∀ k, k ≠ q → _ := fun k hk => ch8_block W q (.int .i64 20) (.string ⟨#[]⟩) (.int .u64 0) (.int .u64 0) (.string ⟨#[]⟩) (.slice none 0 0) (.slice (some ⟨W.heap.size, 0, none⟩) 1 1) (.int .i64 0) hk
  have hvf : ∀ i, _ := fun i => (ch8_frozen W q (.int .i64 20) (.string ⟨#[]⟩) (.int .u64 0) (.int .u64 0) (.string ⟨#[]⟩) (.slice none 0 0) (.slice (some ⟨W.heap.size, 0, none⟩) 1 1) (.int .i64 0) ⟨q, i, none⟩).trans (hfz i)
  have hbw : Below w.heap.size w _ := ch8_below (y0 := .int .i64 20) (y1 := .string ⟨#[]⟩) (y2 := .int .u64 0) (y3 := .int .u64 0) (y4 := .string ⟨#[]⟩) (y5 := .slice none 0 0) (y6 := .slice (some ⟨W.heap.size, 0, none⟩) 1 1) (y7 := .int .i64 0) hbl hq
  generalize ch8 W q (.int .i64 20) (.string ⟨#[]⟩) (.int .u64 0) (.int .u64 0) (.string ⟨#[]⟩) (.slice none 0 0) (.slice (some ⟨W.heap.size, 0, none⟩) 1 1) (.int .i64 0) = V at *
  have hup : Below V.heap.size V (V.alloc (.cells #[.int .i64 x.kind, .string x.ty, .int .u64 x.bits, .int .u64 x.imag, .string x.text, .slice none 0 0, .slice pa x.parts.length pc, .int .i64 x.hook] 26)) := (Below.refl _ _).alloc (Nat.le_refl _) _
  have hnew : (V.alloc (.cells #[.int .i64 x.kind, .string x.ty, .int .u64 x.bits, .int .u64 x.imag, .string x.text, .slice none 0 0, .slice pa x.parts.length pc, .int .i64 x.hook] 26)).heap[V.heap.size]? = some (.cells #[.int .i64 x.kind, .string x.ty, .int .u64 x.bits, .int .u64 x.imag, .string x.text, .slice none 0 0, .slice pa x.parts.length pc, .int .i64 x.hook] 26) := (MapKept.heap_alloc V _).1
  rw [hsz] at hnew
  have hkept : Kept (fun b => w.heap.size ≤ b ∧ b ≠ q) (fun b => w.heap.size ≤ b ∧ b ≠ q ∧ Value.ownBlock (.slice (some ⟨W.heap.size, 0, none⟩) (0 + 1) 1) ≠ some b) W (V.alloc (.cells #[.int .i64 x.kind, .string x.ty, .int .u64 x.bits, .int .u64 x.imag, .string x.text, .slice none 0 0, .slice pa x.parts.length pc, .int .i64 x.hook] 26)) := by
    intro b hb hl
    refine ⟨⟨hb.1, hb.2, fun h => ?_⟩, fun o => ?_⟩
    · have : W.heap.size = b := Option.some.inj h
      omega
    · rw [hup.cell (p := ⟨b, o, none⟩) (by show b < V.heap.size; omega)]
      exact World.cell?_of_block (w := W) (a := ⟨b, o, none⟩) (hbk b hb.2)
  generalize (V.alloc (.cells #[.int .i64 x.kind, .string x.ty, .int .u64 x.bits, .int .u64 x.imag, .string x.text, .slice none 0 0, .slice pa x.parts.length pc, .int .i64 x.hook] 26)) = U at *
  refine ⟨⟨up_cell hup r0, up_cell hup r1, up_cell hup r2, up_cell hup r3, up_cell hup r4, up_cell hup r5, up_cell hup r6, up_cell hup r7⟩, fun i => (hup.frozen (p := ⟨q, i, none⟩) (by show q < V.heap.size; omega)).trans (hvf i), ⟨by simp [cs8, nzs], .inr ⟨W.heap.size, 1, _, rfl, hws, hnew, Nat.le_refl _, by unfold maxLen; omega, rfl, rfl⟩⟩, fun h => ?_, hrd.turn hkept, hbw.trans (hup.mono hbw.size)⟩
  have : W.heap.size = q := Option.some.inj h
  omega
theorem RB.step {w W W2 : World} {q j k c c' : Nat} {x : D} {pa ao ao' : Option Addr} {pc : Nat} (h : RB w q x j pa pc W k ao c) (hq : w.heap.size ≤ q)
    (hown : W2.ownsRow w.heap.size 26 8 (.slice ao' (k + 1 + 1) c') (k + 1 + 1) (cs8 x pa pc ++ nzs k ++ nz8)) (hgrow : (W.alloc (.cells #[.int .i64 0, .string ⟨#[]⟩, .int .u64 0, .int .u64 0, .string ⟨#[]⟩, .slice none 0 0, .slice none 0 0, .int .i64 0] 26)).grownBy W2 (Value.ownBlock (.slice ao (k + 1) c)))
    (hat : Value.ownBlock (.slice ao' (k + 1 + 1) c') = Value.ownBlock (.slice ao (k + 1) c) ∨ Value.ownBlock (.slice ao' (k + 1 + 1) c') = some (W.heap.size + 1)) :
    RB w q x j pa pc (W2.setCell ⟨q, 6, none⟩ (.slice ao' (k + 1 + 1) c')) (k + 1) ao' c' := by
  obtain ⟨⟨c0, c1, c2, c3, c4, c5, c6, c7⟩, hfz, ho, hoq, hrd, hbl⟩ := h
  have hqs : q < W.heap.size := lt_of_cell c0
  have hws := hbl.size
  have hsA : (W.alloc (.cells #[.int .i64 0, .string ⟨#[]⟩, .int .u64 0, .int .u64 0, .string ⟨#[]⟩, .slice none 0 0, .slice none 0 0, .int .i64 0] 26)).heap.size = W.heap.size + 1 := by simp
  have hblk : ∀ b, b < W.heap.size → Value.ownBlock (.slice ao (k + 1) c) ≠ some b → W2.heap[b]? = W.heap[b]? := fun b hb hne =>
    (hgrow.block b (by omega) (Ne.symm hne)).trans (Below.heap_alloc _ _ _ hb)
  have hq' : Value.ownBlock (.slice ao' (k + 1 + 1) c') ≠ some q := by
    rcases hat with e | e
    · rw [e]; exact hoq
    · rw [e]; intro h; have := Option.some.inj h; omega
  have cq : ∀ i, W2.cell? ⟨q, i, none⟩ = W.cell? ⟨q, i, none⟩ := fun i => World.cell?_of_block (w := W) (a := ⟨q, i, none⟩) (hblk q hqs hoq)
  have fq : ∀ i, W2.frozen? ⟨q, i, none⟩ = false := fun i => (World.frozen?_of_block (w := W) (a := ⟨q, i, none⟩) (hblk q hqs hoq)).trans (hfz i)
  have c6' := (cq 6).trans c6
  have oth : ∀ i, i ≠ 6 → (W2.setCell ⟨q, 6, none⟩ (.slice ao' (k + 1 + 1) c')).cell? ⟨q, i, none⟩ = W2.cell? ⟨q, i, none⟩ := by
    intro i hi
    simp [go_sem, hi]
  have hge : ∀ b, Value.ownBlock (.slice ao (k + 1) c) = some b → w.heap.size ≤ b := by
    intro b hb
    rcases ho.2 with ⟨h1, -⟩ | ⟨g, cap, cur, h1, hB, -⟩
    · cases h1
    · cases h1
      have : g = b := Option.some.inj hb
      omega
  have hb2 : Below w.heap.size w W2 := (hbl.alloc hbl.size _).grown hgrow (by omega) hge
  refine ⟨⟨(oth 0 (by decide)).trans ((cq 0).trans c0), (oth 1 (by decide)).trans ((cq 1).trans c1), (oth 2 (by decide)).trans ((cq 2).trans c2), (oth 3 (by decide)).trans ((cq 3).trans c3), (oth 4 (by decide)).trans ((cq 4).trans c4), (oth 5 (by decide)).trans ((cq 5).trans c5), cs_same8 _ _ _ (by rw [c6']; rfl), (oth 7 (by decide)).trans ((cq 7).trans c7)⟩, fun i => (World.frozen?_setCell _ _ _ _).trans (fq i), ?_, hq', ?_, hb2.setCell hq _⟩
  · rw [List.append_assoc] at hown
    refine ⟨hown.1, ?_⟩
    rcases hown.2 with ⟨h1, -⟩ | ⟨g, cap, cur, h1, hB, hg, h4⟩
    · cases h1
    · refine .inr ⟨g, cap, cur, h1, hB, ?_, h4⟩
      cases h1
      rw [Below.heap_setCell _ _ _ _ (by show g ≠ q; intro e; exact hq' (by rw [e]; rfl))]
      exact hg
  · refine hrd.turn fun b hb hl => ?_
    have h1 : Value.ownBlock (.slice ao' (k + 1 + 1) c') ≠ some b := by
      rcases hat with e | e
      · rw [e]; exact hb.2.2
      · rw [e]; intro h; have := Option.some.inj h; omega
    refine ⟨⟨hb.1, hb.2.1, h1⟩, fun o => ?_⟩
    · rw [World.cell?_of_block (w := W2) (a := ⟨b, o, none⟩) (Below.heap_setCell _ _ _ _ (by show b ≠ q; exact hb.2.1))]
      exact World.cell?_of_block (w := W) (a := ⟨b, o, none⟩) (hblk b hl hb.2.2)
theorem RB.reads {w W : World} {q j k c : Nat} {x : D} {pa ao : Option Addr} {pc : Nat} (h : RB w q x j pa pc W k ao c) : RdC (j + 2) W (.slice none 0 0) (.slice ao (Sn k x).parts.length c) (Sn k x) := by
  obtain ⟨-, -, ho, -, hrd, -⟩ := h
  have hlen : (Sn k x).parts.length = k + 1 := by simp [Sn]
  rw [hlen]
  rcases ho.2 with ⟨h1, -⟩ | ⟨g, cap, cur, h1, hB, hg, k1, k2, -⟩
  · cases h1
  · obtain ⟨rfl, -, rfl⟩ := Value.slice.inj h1
    refine ⟨⟨by simp [Sn], by simp [Sn], by simp [Sn], by simp [Sn], Nat.zero_le _, Nat.zero_le _⟩, ⟨none, 0, rfl, Nat.le_refl _, Nat.zero_le _, fun i s h => by simp [Sn] at h⟩, some ⟨g, 0, none⟩, c, by rw [hlen], by rw [hlen]; exact k1, k2, fun i y hy => ?_⟩
    have hi : i < k + 1 := by rw [← hlen]; exact (List.getElem?_eq_some_iff.1 hy).1
    have hat : ∀ r, r < 8 → W.cell? ⟨g, 0 + i * 8 + r, none⟩ = (cs8 x pa pc ++ nzs k)[i * 8 + r]? := fun r hr => by
      rw [Nat.zero_add]
      exact World.ownsRow.cellAt ho (i * 8 + r) (by omega)
    match i, hy, hi, hat with
    | 0, hy, hi, hat =>
      obtain rfl : x = y := by simpa [Sn] using hy
      exact ⟨g, 0, _, _, rfl, ⟨hat 0 (by omega), hat 1 (by omega), hat 2 (by omega), hat 3 (by omega), hat 4 (by omega), hat 5 (by omega), hat 6 (by omega), hat 7 (by omega)⟩, hrd.plain⟩
    | i + 1, hy, hi, hat =>
      obtain rfl : N0 = y := by
        have : (List.replicate k N0)[i]? = some y := by simpa [Sn] using hy
        rw [List.getElem?_replicate] at this
        split at this
        · exact Option.some.inj this
        · cases this
      have hz : ∀ r, r < 8 → W.cell? ⟨g, 0 + (i + 1) * 8 + r, none⟩ = nz8[r]? := fun r hr => by
        rw [hat r hr, List.getElem?_append_right (by simp [cs8]; omega), ← nzs_at k i r (by omega) hr]
        congr 1
        simp [cs8]; omega
      refine ⟨g, 0, .slice none 0 0, .slice none 0 0, rfl, ⟨hz 0 (by omega), hz 1 (by omega), hz 2 (by omega), hz 3 (by omega), hz 4 (by omega), hz 5 (by omega), hz 6 (by omega), hz 7 (by omega)⟩, ?_⟩
      exact RdC.more (by omega) (rd0 0 0 0 0 ⟨#[]⟩ ⟨#[]⟩ W (fit_0 0 0 (by omega) (by omega)))
end Go.Proofs.YtcabfeehfimooabDoor
