/- Plain7, Plain8, QPlain, XRow, XWalkA: these texts in one. -/
import Derived.Test.YtjfmhghpkefihaaGreatDoorPt1
import Derived.Test.YtjfmhghpkefihaaGreatDoorProg
import Derived.Lib.MapLaws
import Derived.Deep.LoopGhost
import Derived.Deep.RegionWith
import Derived.Maps.AppendAt
import Derived.Deep.DeepCutAuto
import Derived.Deep.CutBlock
import Derived.Deep.MidRow
import Derived.Deep.Upon
import Derived.Handy
import Derived.LoopN
namespace Go.Proofs.YtjfmhghpkefihaaGreatDoor
open Go.RowKit
set_option maxHeartbeats 1000000 in
theorem decodeN_trunc (n n' b0 b1 b2 b3 c1 c2 c3 : Nat) (hn : n' ≤ n) (h1 : 1 < n' → c1 = b1) (h2 : 2 < n' → c2 = b2) (h3 : 3 < n' → c3 = b3)
  (hw : (Lib.decodeN n b0 b1 b2 b3).2 ≤ n') : Lib.decodeN n' b0 c1 c2 c3 = Lib.decodeN n b0 b1 b2 b3 := by
 rcases Lib.decodeN_shape n b0 b1 b2 b3 with ⟨c, e⟩ | ⟨d1, d2, d3, cv, e⟩ | ⟨d1, d2, d3, d4, cv, cs, e⟩ | ⟨d1, d2, d3, d4, d5, cv, cw, e⟩ | e
 ·rw [e]; unfold Lib.decodeN; rw [if_pos c]
 ·rw [e] at hw ⊢
  dsimp only at hw
  have g1 := h1 (by omega)
  subst g1
  unfold Lib.decodeN
  rw [if_neg (by omega), if_pos (by omega), if_pos (by omega)]
 ·rw [e] at hw ⊢
  dsimp only at hw
  have g1 := h1 (by omega)
  have g2 := h2 (by omega)
  subst g1 g2
  unfold Lib.decodeN
  rw [if_neg (by omega), if_neg (by omega), if_pos (by omega), if_pos (by omega)]
 ·rw [e] at hw ⊢
  dsimp only at hw
  have g1 := h1 (by omega)
  have g2 := h2 (by omega)
  have g3 := h3 (by omega)
  subst g1 g2 g3
  unfold Lib.decodeN
  rw [if_neg (by omega), if_neg (by omega), if_neg (by omega), if_pos (by omega), if_pos (by omega)]
 ·rcases Lib.decodeN_shape n' b0 c1 c2 c3 with ⟨c, e'⟩ | ⟨d1, d2, d3, cv, e'⟩ | ⟨d1, d2, d3, d4, cv, cs, e'⟩ | ⟨d1, d2, d3, d4, d5, cv, cw, e'⟩ | e'
  ·exfalso
   have : Lib.decodeN n b0 b1 b2 b3 = (b0, 1) := by unfold Lib.decodeN; rw [if_pos c]
   rw [e] at this
   have := congrArg Prod.fst this
   dsimp only at this
   omega
  ·exfalso
   have g1 := h1 d2
   subst g1
   have : Lib.decodeN n b0 c1 b2 b3 = (b0 % 32 * 64 + c1 % 64, 2) := by
    unfold Lib.decodeN
    rw [if_neg (by omega), if_pos (by omega), if_pos (by omega)]
   rw [e] at this
   have := congrArg Prod.snd this
   dsimp only at this
   omega
  ·exfalso
   have g1 := h1 (by omega)
   have g2 := h2 d2
   subst g1 g2
   have : Lib.decodeN n b0 c1 c2 b3 = (b0 % 16 * 4096 + c1 % 64 * 64 + c2 % 64, 3) := by
    unfold Lib.decodeN
    rw [if_neg (by omega), if_neg (by omega), if_pos (by omega), if_pos (by omega)]
   rw [e] at this
   have := congrArg Prod.snd this
   dsimp only at this
   omega
  ·exfalso
   have g1 := h1 (by omega)
   have g2 := h2 (by omega)
   have g3 := h3 d2
   subst g1 g2 g3
   have : Lib.decodeN n b0 c1 c2 c3 = (b0 % 8 * 262144 + c1 % 64 * 4096 + c2 % 64 * 64 + c3 % 64, 4) := by
    unfold Lib.decodeN
    rw [if_neg (by omega), if_neg (by omega), if_neg (by omega), if_pos (by omega), if_pos (by omega)]
   rw [e] at this
   have := congrArg Prod.snd this
   dsimp only at this
   omega
  ·rw [e, e']
theorem head_size (u : ByteArray) (P : Nat) (h : P ≤ u.size) : (u.extract 0 P).size = P := by
 rw [ByteArray.size_extract]; omega
theorem bt_head (u : ByteArray) (P i : Nat) (hi : i < P) : bt (u.extract 0 P) i = bt u i := by
 unfold bt
 rw [← Lib.getD_get!', ← Lib.getD_get!', ext_list]
 simp only [List.getD, List.getElem?_take, if_pos hi]
theorem dec_head (u : ByteArray) (P p : Nat) (hP : P ≤ u.size) (hp : p < P) (hw : p + (Utf8.decode u p).2 ≤ P) : Utf8.decode (u.extract 0 P) p = Utf8.decode u p := by
 have hz := head_size u P hP
 rw [Lib.decode_at] at hw
 rw [Lib.decode_at, Lib.decode_at, hz]
 have e0 : ((u.extract 0 P).get! p).toNat = (u.get! p).toNat := bt_head u P p hp
 rw [e0]
 apply decodeN_trunc
 ·omega
 ·intro h; exact bt_head u P (p + 1) (by omega)
 ·intro h; exact bt_head u P (p + 2) (by omega)
 ·intro h; exact bt_head u P (p + 3) (by omega)
 ·omega
theorem posGo_ge (u : ByteArray) : ∀ (N p : Nat), p ≤ posGo u N p
 | 0, p => Nat.le_refl _
 | N + 1, p => by
   by_cases hp : p < u.size
   ·rw [posGo_step u N p hp]
    have := posGo_ge u N (p + (Utf8.decode u p).2)
    omega
   ·rw [posGo_end u _ p hp]; exact Nat.le_refl _
theorem cnt_rest (u : ByteArray) : ∀ (N p : Nat), cntFrom u (posGo u N p) + min N (cntFrom u p) = cntFrom u p
 | 0, p => by simp [posGo]
 | N + 1, p => by
   by_cases hp : p < u.size
   ·rw [posGo_step u N p hp, cntFrom_step u p hp]
    have := cnt_rest u N (p + (Utf8.decode u p).2)
    omega
   ·rw [posGo_end u _ p hp, cntFrom_end u p hp]; omega
theorem cnt_head (u : ByteArray) : ∀ (N p P : Nat), p ≤ u.size → P = posGo u N p → cntFrom (u.extract 0 P) p = min N (cntFrom u p)
 | 0, p, P, h, e => by
   have : P = p := e
   subst this
   rw [cntFrom_end _ _ (by rw [head_size u P h]; omega)]
   omega
 | N + 1, p, P, h, e => by
   have hPl : P ≤ u.size := by rw [e]; exact posGo_le u _ p h
   by_cases hp : p < u.size
   ·rw [posGo_step u N p hp] at e
    have hge := posGo_ge u N (p + (Utf8.decode u p).2)
    have hw := wid_pos u p
    have hl := wid_le u p hp
    rw [← e] at hge
    rw [cntFrom_step _ p (by rw [head_size u P hPl]; omega), dec_head u P p hPl (by omega) hge, cnt_head u N _ P hl e, cntFrom_step u p hp]
    omega
   ·rw [posGo_end u _ p hp] at e
    subst e
    rw [cntFrom_end _ _ (by rw [head_size u P h]; omega), cntFrom_end u _ hp]
    omega
theorem cut_facts (u : ByteArray) (n : Int) : (cutS u n).size ≤ u.size ∧ u.extract 0 (cutS u n).size = cutS u n ∧
  (0 ≤ n → min n (cntR u : Int) = (cntR (cutS u n) : Nat)) ∧ (n < 0 → cntR (cutS u n) = cntR u) ∧ cntR (u.extract (cutS u n).size u.size) + cntR (cutS u n) = cntR u := by
 by_cases hn : n < 0
 ·have e : cutS u n = u := by unfold cutS; rw [if_pos hn]
  rw [e]
  refine ⟨Nat.le_refl _, extract_all u, fun h => by omega, fun _ => rfl, ?_⟩
  rw [cntR_tail, cntFrom_end u _ (by omega)]; omega
 ·have e : cutS u n = u.extract 0 (posGo u n.toNat 0) := by unfold cutS; rw [if_neg hn]
  have hPl := posGo_le u n.toNat 0 (Nat.zero_le _)
  have hz := head_size u _ hPl
  have hc : cntR (cutS u n) = min n.toNat (cntR u) := by
   rw [e]; exact cnt_head u n.toNat 0 _ (Nat.zero_le _) rfl
  have hr := cnt_rest u n.toNat 0
  refine ⟨by rw [e, hz]; exact hPl, by rw [e, hz], fun h => by rw [hc]; omega, fun h => by omega, ?_⟩
  rw [cntR_tail, hc, e, hz]
  exact hr
theorem back_dec (c : Int) (s : ByteArray) : dec (Utf8.encode c ++ s) = (pt c, (Utf8.encode c).size) := by
 have hv := pt_valid c
 have hz : 0 < (Utf8.encode c ++ s).size := by
  rw [app_size, enc_pt c, enc_lib _ hv, strOfNums_size]
  have := (Lib.encodeRuneZ_length (pt c : Int)).1
  omega
 rw [dec_ne _ hz, dec_begins _ (pt c) hv s.data.toList (by rw [app_list, enc_pt c]), ← enc_pt c]
theorem enc_size_le (c : Int) : (Utf8.encode c).size ≤ 4 := by
 rw [enc_pt c, enc_lib _ (pt_valid c), strOfNums_size]
 exact (Lib.encodeRuneZ_length (pt c : Int)).2
end Go.Proofs.YtjfmhghpkefihaaGreatDoor
namespace Go.Proofs.YtjfmhghpkefihaaGreatDoor
open Go.RowKit
end Go.Proofs.YtjfmhghpkefihaaGreatDoor
namespace Go.Proofs.YtjfmhghpkefihaaGreatDoor
open Go.RowKit
theorem list_len (s : ByteArray) : s.data.toList.length = s.size := (Lib.size_eq s).symm
def plainP (c : Int) : Bool := decide ((32 ≤ c ∧ c ≤ 126) ∨ (161 ≤ c ∧ c ≤ 55295 ∧ c ≠ 173) ∨ (57344 ≤ c ∧ c ≤ 65532) ∨ (65536 ≤ c ∧ c ≤ 1114111))
theorem plainP_iff (c : Int) : plainP c = true ↔ ((32 ≤ c ∧ c ≤ 126) ∨ (161 ≤ c ∧ c ≤ 55295 ∧ c ≠ 173) ∨ (57344 ≤ c ∧ c ≤ 65532) ∨ (65536 ≤ c ∧ c ≤ 1114111)) := by
 unfold plainP; exact decide_eq_true_iff
theorem plainP_not (c : Int) : plainP c = false ↔ ¬ ((32 ≤ c ∧ c ≤ 126) ∨ (161 ≤ c ∧ c ≤ 55295 ∧ c ≠ 173) ∨ (57344 ≤ c ∧ c ≤ 65532) ∨ (65536 ≤ c ∧ c ≤ 1114111)) := by
 unfold plainP; exact decide_eq_false_iff_not
def hexN (g : Bool) (n : Nat) : Nat := if n < 10 then 48 + n else if g then 55 + n else 87 + n
def hexB (g : Bool) (n : Nat) : UInt8 := UInt8.ofNat (hexN g n)
def hexL : Nat → Nat → List UInt8
 | _, 0 => []
 | n, k + 1 => hexL (n / 16) k ++ [hexB false (n % 16)]
theorem hexL_len : ∀ (k n : Nat), (hexL n k).length = k
 | 0, _ => rfl
 | k + 1, n => by simp [hexL, hexL_len k]
theorem hexL_more (c k m : Nat) (h : m + 1 ≤ k) : hexL (c / 16 ^ m) (k - m) = hexL (c / 16 ^ (m + 1)) (k - (m + 1)) ++ [hexB false (c / 16 ^ m % 16)] := by
 obtain ⟨j, hj⟩ : ∃ j, k - m = j + 1 := ⟨k - m - 1, by omega⟩
 rw [hj, show k - (m + 1) = j by omega]
 simp only [hexL]
 rw [Nat.div_div_eq_div_mul, Nat.pow_succ]
def escT : Nat → Nat
 | 0 => 97
 | 1 => 98
 | 2 => 116
 | 3 => 110
 | 4 => 118
 | 5 => 102
 | _ => 114
def inL (c q : Nat) (a : Bool) : List UInt8 :=
 if c = q ∨ c = 92 then [92, UInt8.ofNat c]
 else if 7 ≤ c ∧ c ≤ 13 then [92, UInt8.ofNat (escT (c - 7))]
 else if plainP c = true ∧ (c ≤ 126 ∨ a = false) then (Utf8.encode (c : Int)).data.toList
 else if c < 128 then 92 :: 120 :: hexL c 2
 else if c ≤ 65535 then 92 :: 117 :: hexL c 4
 else 92 :: 85 :: hexL c 8
theorem enc_len (c : Nat) : (Utf8.encode (c : Int)).data.toList.length ≤ 4 := by
 have := enc_size_le (c : Int)
 rw [list_len]
 exact this
theorem inL_len (c q : Nat) (a : Bool) : (inL c q a).length ≤ 10 := by
 have := enc_len c
 unfold inL
 split
 ·simp
 ·split
  ·simp
  ·split
   ·omega
   ·split
    ·simp [hexL_len]
    ·split <;> simp [hexL_len]
theorem ba_app (a b : List UInt8) : (⟨a.toArray⟩ : ByteArray) ++ ⟨b.toArray⟩ = ⟨(a ++ b).toArray⟩ := by
 apply ByteArray.ext
 rw [ByteArray.data_append]
 simp
theorem ba_list (s : ByteArray) : (⟨s.data.toList.toArray⟩ : ByteArray) = s := by
 apply ByteArray.ext; simp
end Go.Proofs.YtjfmhghpkefihaaGreatDoor
namespace Go.Proofs.YtjfmhghpkefihaaGreatDoor
open Go.RowKit
set_option linter.unusedVariables false
set_option linter.unusedSimpArgs false
structure Sl where
 a : Option Addr
 n : Nat
 c : Nat
def Sl.v (s : Sl) : Value := .slice s.a s.n s.c
def Sl.no : Sl := ⟨none, 0, 0⟩
structure Ds where
 k : Int
 ty : ByteArray
 bi : Int
 im : Int
 tx : ByteArray
 ns : Sl
 ps : Sl
 hk : Int
def Ds.v (d : Ds) : List Value := [.int .i64 d.k, .string d.ty, .int .u64 d.bi, .int .u64 d.im, .string d.tx, .slice d.ns.a d.ns.n d.ns.c, .slice d.ps.a d.ps.n d.ps.c, .int .i64 d.hk]
def Ds.no : Ds := ⟨0, ⟨#[]⟩, 0, 0, ⟨#[]⟩, .no, .no, 0⟩
structure Ac where
 k : Int
 t : ByteArray
 f : ByteArray
 l : Sl
 p : Ds
def Ac.v (x : Ac) : List Value := [.int .i64 x.k, .string x.t, .string x.f, .slice x.l.a x.l.n x.l.c] ++ x.p.v
def Ac.no : Ac := ⟨0, ⟨#[]⟩, ⟨#[]⟩, .no, .no⟩
structure Hk where
 a : Ac
 b : Ac
 c : Ac
 d : Ac
def Hk.v (h : Hk) : List Value := h.a.v ++ (h.b.v ++ (h.c.v ++ h.d.v))
theorem Ds.len (d : Ds) : d.v.length = 8 := rfl
theorem Ac.len (x : Ac) : x.v.length = 12 := rfl
theorem Hk.len (h : Hk) : h.v.length = 48 := rfl
theorem Ds.one (d : Ds) : ∀ v ∈ d.v, v.oneCell' = true := by
 intro v hv
 simp only [Ds.v, List.mem_cons, List.not_mem_nil, or_false] at hv
 rcases hv with rfl | rfl | rfl | rfl | rfl | rfl | rfl | rfl <;> rfl
theorem Ac.one (x : Ac) : ∀ v ∈ x.v, v.oneCell' = true := by
 intro v hv
 simp only [Ac.v, List.mem_append, List.mem_cons, List.not_mem_nil, or_false] at hv
 rcases hv with (rfl | rfl | rfl | rfl) | hv
 ·rfl
 ·rfl
 ·rfl
 ·rfl
 ·exact x.p.one v hv
theorem Hk.one (h : Hk) : ∀ v ∈ h.v, v.oneCell' = true := by
 intro v hv
 simp only [Hk.v, List.mem_append] at hv
 rcases hv with hv | hv | hv | hv
 ·exact h.a.one v hv
 ·exact h.b.one v hv
 ·exact h.c.one v hv
 ·exact h.d.one v hv
structure Blk (w : World) (B : Nat) (vs : List Value) : Prop where
 c : ∀ i v, vs[i]? = some v → w.cell? ⟨B, i, none⟩ = some v
 z : ∀ i, w.frozen? ⟨B, i, none⟩ = false
 b : B < w.heap.size
theorem Blk.up {w w' : World} {B : Nat} {vs : List Value} (h : Blk w B vs) (hb : Below w.heap.size w w') : Blk w' B vs :=
 ⟨fun i v hv => (hb.cell (p := ⟨B, i, none⟩) h.b).trans (h.c i v hv), fun i => (hb.frozen (p := ⟨B, i, none⟩) h.b).trans (h.z i), Nat.lt_of_lt_of_le h.b hb.size⟩
theorem Blk.grown {w w' : World} {B : Nat} {vs : List Value} {R : Nat} (h : Blk w B vs) (hg : w.grownBy w' (some R)) (hne : B ≠ R) : Blk w' B vs := by
 have hB := hg.block B h.b (by simpa using hne)
 exact ⟨fun i v hv => (World.cell?_of_block (w := w) (a := ⟨B, i, none⟩) hB).trans (h.c i v hv), fun i => (World.frozen?_of_block (w := w) (a := ⟨B, i, none⟩) hB).trans (h.z i), Nat.lt_of_lt_of_le h.b hg.size⟩
theorem Blk.new (w : World) (vs : List Value) (t : TypeId) : Blk (w.alloc (.cells vs.toArray t)) w.heap.size vs :=
 ⟨fun i v hv => by simp [hv], fun i => by simp, by simp⟩
theorem Blk.alloc {w : World} {B : Nat} {vs : List Value} (h : Blk w B vs) (o : Obj) : Blk (w.alloc o) B vs := h.up ((Below.refl _ _).alloc (Nat.le_refl _) _)
theorem Blk.mid {w : World} {B : Nat} {p cs q : List Value} (h : Blk w B (p ++ (cs ++ q))) {o : Nat} (ho : p.length = o) : w.rangeAt B o cs := fun j v hv => by
 subst ho
 refine h.c _ v ?_
 rw [List.getElem?_append_right (by omega), Nat.add_sub_cancel_left, List.getElem?_append_left]
 ·exact hv
 ·exact (List.getElem?_eq_some_iff.1 hv).1
theorem Blk.range {w : World} {B : Nat} {vs : List Value} (h : Blk w B vs) : w.rangeAt B 0 vs := fun j v hv => by rw [Nat.zero_add]; exact h.c j v hv
theorem Blk.there {w : World} {B : Nat} {vs : List Value} (h : Blk w B vs) : w.there B 0 vs.length := fun j hj => by
 rw [Nat.zero_add]
 exact ⟨by rw [h.c j _ (List.getElem?_eq_getElem hj)]; rfl, h.z j⟩
theorem xsc_size (w : World) (b : Nat) : ∀ (vs : List Value) (o : Nat), (w.setCells b o vs).heap.size = w.heap.size := by
 intro vs
 induction vs generalizing w with
 | nil => intro o; rfl
 | cons v r ih => intro o; rw [World.setCells, ih]; simp [World.setCell]
theorem xsc_heap (b k : Nat) (hk : k ≠ b) : ∀ (vs : List Value) (w : World) (o : Nat), (w.setCells b o vs).heap[k]? = w.heap[k]?
 | [], _, _ => rfl
 | v :: r, w, o => by rw [World.setCells, xsc_heap b k hk r, Below.heap_setCell _ _ _ _ hk]
theorem xsc_rest (b : Nat) : ∀ (vs : List Value) (w : World) (o : Nat), (w.setCells b o vs).os = w.os ∧ (w.setCells b o vs).tape = w.tape ∧ (w.setCells b o vs).output = w.output
 | [], _, _ => ⟨rfl, rfl, rfl⟩
 | v :: r, w, o => by
   rw [World.setCells]
   obtain ⟨h1, h2, h3⟩ := xsc_rest b r (w.setCell ⟨b, o, none⟩ v) (o + 1)
   exact ⟨h1, h2, h3⟩
theorem xbelow_sc {N : Nat} {w w' : World} {B : Nat} (h : Below N w w') (hB : N ≤ B) (o : Nat) (vs : List Value) : Below N w (w'.setCells B o vs) := by
 obtain ⟨h1, h2, h3⟩ := xsc_rest B vs w' o
 exact ⟨h1.trans h.os, h2.trans h.tape, h3.trans h.output, by rw [xsc_size]; exact h.size, fun k hk => by rw [xsc_heap B k (by omega)]; exact h.block k hk⟩
theorem Blk.all {w : World} {B : Nat} {vs : List Value} (h : Blk w B vs) (us : List Value) (hl : us.length = vs.length) : Blk (w.setCells B 0 us) B us := by
 refine ⟨fun i v hv => ?_, fun i => (World.frozen?_setCells _ _ _ _ _).trans (h.z i), by rw [xsc_size]; exact h.b⟩
 have := World.rangeAt_setCells_same w B 0 us (by rw [hl]; exact h.there) i v hv
 rwa [Nat.zero_add] at this
theorem Blk.oth {w : World} {B B' : Nat} {vs : List Value} (h : Blk w B vs) (hne : B' ≠ B) (o : Nat) (us : List Value) : Blk (w.setCells B' o us) B vs := by
 have hB := xsc_heap B' B hne.symm us w o
 exact ⟨fun i u hu => (World.cell?_of_block (w := w) (a := ⟨B, i, none⟩) hB).trans (h.c i u hu), fun i => (World.frozen?_of_block (w := w) (a := ⟨B, i, none⟩) hB).trans (h.z i), by rw [xsc_size]; exact h.b⟩
def Row (t n : Nat) : Prop := (∃ d, Tryz.prog.underlying t = some d ∧ d.isRow = true) ∧ (Tryz.prog.info? t).map (·.size) = some n
theorem row_Desc : Row 29 8 := ⟨⟨_, Tryz.underlying29, rfl⟩, by kernel_rfl⟩
theorem row_Act : Row 31 12 := ⟨⟨_, Tryz.underlying31, rfl⟩, by kernel_rfl⟩
theorem row_Hook : Row 33 48 := ⟨⟨_, Tryz.underlying33, rfl⟩, by kernel_rfl⟩
theorem row_script : Row 246 13 := ⟨⟨_, Tryz.underlying246, rfl⟩, by kernel_rfl⟩
theorem row_Spec : Row 67 8 := ⟨⟨_, Tryz.underlying67, rfl⟩, by kernel_rfl⟩
theorem wpl_ld {ops : Array Oper} {rest : List Oper} {op : Oper} {a : Act} {w : World} {Q : Exit → Act → World → Prop} {t n : Nat} (hr : Row t n) (hgd : op.guard = none) (x : Operand) (ho : op.op = .load t x) {B o : Nat} {vs : List Value}
  (hx : a.eval x = .pointer (some ⟨B, o, none⟩)) (hB : w.rangeAt B o vs) (hl : vs.length = n)
  (h : wpList Tryz.prog ops Q rest (a.put op.dst (.agg vs.toArray)) w) : wpList Tryz.prog ops Q (op :: rest) a w := by
 obtain ⟨⟨d, h1, h2⟩, h3⟩ := hr
 exact wpList_load_mid hgd t x ho B o hx vs d hB h1 h2 (by rw [hl]; exact h3) h
theorem wpl_st {ops : Array Oper} {rest : List Oper} {op : Oper} {a : Act} {w : World} {Q : Exit → Act → World → Prop} {t n : Nat} (hr : Row t n) (hgd : op.guard = none) (x y : Operand) (ho : op.op = .store t x y) {B : Nat} {vs us : List Value}
  (hx : a.eval x = .pointer (some ⟨B, 0, none⟩)) (hy : a.eval y = .agg us.toArray) (hB : Blk w B vs) (hl : vs.length = n) (hu : us.length = n) (h1 : ∀ v ∈ us, v.oneCell' = true)
  (h : wpList Tryz.prog ops Q rest (a.put op.dst undef) (w.setCells B 0 us)) : wpList Tryz.prog ops Q (op :: rest) a w := by
 refine wpList_store_mid hgd t x y ho B 0 us.toArray hx hy (by have := hB.there; rw [hl] at this; simpa [hu] using this) (by simp [hu, hr.2]) (all_oneCell_toArray h1) ?_
 simpa using h
theorem wpl_bld {ops : Array Oper} {rest : List Oper} {op : Oper} {a : Act} {w : World} {Q : Exit → Act → World → Prop} (hgd : op.guard = none) (t : TypeId) (parts : Array (Nat × Operand)) (ho : op.op = .build t parts) {V : Value} (ps : List (Nat × Value))
  (hx : parts.toList.map (fun x => (x.1, a.eval x.2)) = ps) (hb : (Instr.build t ps.toArray).run Tryz.prog w = .ok V w)
  (h : wpList Tryz.prog ops Q rest (a.put op.dst V) w) : wpList Tryz.prog ops Q (op :: rest) a w := by
 have hx' : (parts.map fun (i, x) => (i, a.eval x)) = ps.toArray := by
  rw [← hx]
  apply Array.ext'
  simp
 refine wpList_plain hgd fun K hK => ?_
 unfold Oper.wp execOp
 simp only [ho, hx', hb, Sem.run_bind, Sem.run_pure, Result.andThen_ok]
 exact hK _ _ h
theorem bld_script0 (x : Ac) (w : World) : (Instr.build 246 #[(0, .agg x.v.toArray)]).run Tryz.prog w = .ok (.agg (x.v ++ [Value.nilFunc]).toArray) w := by
 obtain ⟨k, t, f, ⟨la, ln, lc⟩, ⟨a0, a1, a2, a3, a4, ⟨na, nn, nc⟩, ⟨pa, pn, pc⟩, a7⟩⟩ := x
 kernel_rfl
theorem bld_script1 (x : Ac) (g : Value) (hg : ∃ f a b, g = .func f a b) (w : World) : (Instr.build 246 #[(0, .agg x.v.toArray), (1, g)]).run Tryz.prog w = .ok (.agg (x.v ++ [g]).toArray) w := by
 obtain ⟨k, t, f, ⟨la, ln, lc⟩, ⟨a0, a1, a2, a3, a4, ⟨na, nn, nc⟩, ⟨pa, pn, pc⟩, a7⟩⟩ := x
 obtain ⟨f, a, b, rfl⟩ := hg
 kernel_rfl
theorem res_row {t n s : Nat} (hw : Row t n) {f : Func} (hr : f.results = #[.cell s t]) {tmps : Array Value} {w : World} {B : Nat} {vs : List Value} (ht : tmps.getD s undef = .pointer (some ⟨B, 0, none⟩)) (h : Blk w B vs) (hl : vs.length = n) : (results f tmps).run Tryz.prog w = .ok (.agg vs.toArray) w := by
 obtain ⟨⟨d, h1, h2⟩, h3⟩ := hw
 have hL := run_loadVar_mid (P := Tryz.prog) w B 0 t vs d h.range h1 h2 (by rw [hl]; exact h3)
 have ht' : tmps[s]?.getD undef = .pointer (some ⟨B, 0, none⟩) := by simpa using ht
 simp [results, hr, ht', hL, asAddr]
theorem fneq_t (f : Fn) (a c : Array Value) (w : World) : (binOp BinOp.neq 35 (.func f a c) .nilFunc).run Tryz.prog w = .ok (.bool true) w := by kernel_rfl
theorem fneq_n (w : World) : (binOp BinOp.neq 35 .nilFunc .nilFunc).run Tryz.prog w = .ok (.bool false) w := by kernel_rfl
theorem feql_fstr (f : Fn) (a c : Array Value) (w : World) : (binOp BinOp.eql 35 (.func f a c) .nilFunc).run Tryz.prog w = .ok (.bool false) w := by kernel_rfl
theorem feql_fprint (f : Fn) (a c : Array Value) (w : World) : (binOp BinOp.eql 118 (.func f a c) .nilFunc).run Tryz.prog w = .ok (.bool false) w := by kernel_rfl
end Go.Proofs.YtjfmhghpkefihaaGreatDoor
namespace Go.Proofs.YtjfmhghpkefihaaGreatDoor
open Go.RowKit
set_option linter.unusedVariables false
set_option linter.unusedSimpArgs false
def doV (x : Ac) (g : Value) : Value :=
 if x.k = 1 then .func (.func 191) #[.agg (x.v ++ [g]).toArray] #[] else if x.k = 2 then .func (.func 192) #[.agg (x.v ++ [g]).toArray] #[] else if x.k = 3 then .func (.func 193) #[.agg (x.v ++ [g]).toArray] #[] else .nilFunc
set_option maxRecDepth 1000000 in
set_option maxHeartbeats 2000000 in
theorem does_any (x : Ac) (g : Value) (w : World) : Calls Tryz.prog 148 #[.agg (x.v ++ [g]).toArray] w fun e w' => e = .returned (doV x g) ∧ Below w.heap.size w w' := by
 obtain ⟨L, hL⟩ : ∃ L, L = x.v ++ [g] := ⟨_, rfl⟩
 have hl : L.length = 13 := by rw [hL]; simp [x.len]
 have h0 : L[0]? = some (.int .i64 x.k) := by rw [hL]; rfl
 obtain ⟨W1, hW1⟩ : ∃ W1, W1 = w.alloc (.cells L.toArray 246) := ⟨_, rfl⟩
 have hb : Blk W1 w.heap.size L := by rw [hW1]; exact Blk.new _ _ _
 have hw1 : Below w.heap.size w W1 := by rw [hW1]; exact (Below.refl _ _).alloc (Nat.le_refl _) _
 have c0 := hb.c 0 _ h0
 have hv : doV x g = if x.k = 1 then .func (.func 191) #[.agg L.toArray] #[] else if x.k = 2 then .func (.func 192) #[.agg L.toArray] #[] else if x.k = 3 then .func (.func 193) #[.agg L.toArray] #[] else .nilFunc := by rw [hL]; rfl
 rw [hv, ← hL]
 clear hL hv
 generalize x.k = k at *
 go_enter Tryz.func148, Tryz.ntmps148
 go_upto_region 1 with fail
 rw [← hW1]
 clear hW1
 by_cases e1 : k = 1
 ·subst e1
  go_wp2_with (refine wpl_ld row_script rfl (.tmp 1) rfl (vs := L) rfl hb.range hl ?_)
  go_ret
  exact ⟨rfl, hw1⟩
 ·by_cases e2 : k = 2
  ·subst e2
   go_wp2_with (refine wpl_ld row_script rfl (.tmp 1) rfl (vs := L) rfl hb.range hl ?_)
   go_ret
   exact ⟨rfl, hw1⟩
  ·by_cases e3 : k = 3
   ·subst e3
    go_wp2_with (refine wpl_ld row_script rfl (.tmp 1) rfl (vs := L) rfl hb.range hl ?_)
    go_ret
    exact ⟨rfl, hw1⟩
   ·go_wp2
    go_ret
    simp only [e1, e2, e3, if_false]
    exact ⟨rfl, hw1⟩
def thB (x : Ac) : Bool := x.k == 1 || x.k == 2 || x.k == 3
theorem thB_dec (x : Ac) : thB x = decide (x.k = 1 ∨ x.k = 2 ∨ x.k = 3) := by
 unfold thB
 by_cases e1 : x.k = 1 <;> by_cases e2 : x.k = 2 <;> by_cases e3 : x.k = 3 <;> simp [e1, e2, e3]
theorem doV_th (x : Ac) (g : Value) (h : thB x = true) : ∃ f, doV x g = .func (.func f) #[.agg (x.v ++ [g]).toArray] #[] := by
 rw [thB_dec] at h
 have h' := of_decide_eq_true h
 unfold doV
 by_cases e1 : x.k = 1
 ·exact ⟨_, if_pos e1⟩
 ·by_cases e2 : x.k = 2
  ·rw [if_neg e1, if_pos e2]; exact ⟨_, rfl⟩
  ·have e3 : x.k = 3 := by omega
   rw [if_neg e1, if_neg e2, if_pos e3]; exact ⟨_, rfl⟩
theorem doV_no (x : Ac) (g : Value) (h : thB x = false) : doV x g = .nilFunc := by
 rw [thB_dec] at h
 have h' := of_decide_eq_false h
 unfold doV
 rw [if_neg (fun e => h' (.inl e)), if_neg (fun e => h' (.inr (.inl e))), if_neg (fun e => h' (.inr (.inr e)))]
set_option maxRecDepth 1000000 in
set_option maxHeartbeats 2000000 in
theorem there_any (x : Ac) (w : World) : Calls Tryz.prog 145 #[.agg x.v.toArray] w fun e w' => e = .returned (.bool (thB x)) ∧ Below w.heap.size w w' := by
 obtain ⟨L, hL⟩ : ∃ L, L = x.v := ⟨_, rfl⟩
 obtain ⟨M, hM⟩ : ∃ M, M = x.v ++ [Value.nilFunc] := ⟨_, rfl⟩
 have hl : L.length = 12 := by rw [hL]; exact x.len
 have hN := doV_no x .nilFunc
 have hT := doV_th x .nilFunc
 rw [← hM] at hT
 rw [← hL]
 have hD : ∀ w, Calls Tryz.prog 148 #[.agg M.toArray] w fun e w' => e = .returned (doV x .nilFunc) ∧ Below w.heap.size w w' := by rw [hM]; exact fun w => does_any x .nilFunc w
 have hB : ∀ w, (Instr.build 246 #[(0, .agg L.toArray)]).run Tryz.prog w = .ok (.agg M.toArray) w := by rw [hL, hM]; exact fun w => bld_script0 x w
 obtain ⟨W1, hW1⟩ : ∃ W1, W1 = w.alloc (.cells L.toArray 31) := ⟨_, rfl⟩
 have hb : Blk W1 w.heap.size L := by rw [hW1]; exact Blk.new _ _ _
 have hw1 : Below w.heap.size w W1 := by rw [hW1]; exact (Below.refl _ _).alloc (Nat.le_refl _) _
 clear hL hM
 cases hq : thB x with
 | true =>
   obtain ⟨f, hf⟩ := hT hq
   rw [hf] at hD
   clear hf hq hT hN
   have hn := fun w => fneq_t (.func f) #[.agg M.toArray] #[] w
   go_enter Tryz.func145, Tryz.ntmps145
   go_upto_region 1 with fail
   rw [← hW1]
   clear hW1
   go_wp2_with (first
    | (refine wpl_ld row_Act rfl (.tmp 1) rfl (vs := L) rfl hb.range hl ?_)
    | (refine wpl_bld rfl _ _ rfl [(0, .agg L.toArray)] rfl (hB _) ?_)
    | (go_at_call 148; refine (hD _).mono ?_; rintro e w2 ⟨rfl, h2⟩))
   go_ret
   exact ⟨rfl, hw1.trans (h2.mono hw1.size)⟩
 | false =>
   rw [hN hq] at hD
   clear hq hT hN
   have hn := fun w => fneq_n w
   go_enter Tryz.func145, Tryz.ntmps145
   go_upto_region 1 with fail
   rw [← hW1]
   clear hW1
   go_wp2_with (first
    | (refine wpl_ld row_Act rfl (.tmp 1) rfl (vs := L) rfl hb.range hl ?_)
    | (refine wpl_bld rfl _ _ rfl [(0, .agg L.toArray)] rfl (hB _) ?_)
    | (go_at_call 148; refine (hD _).mono ?_; rintro e w2 ⟨rfl, h2⟩))
   go_ret
   exact ⟨rfl, hw1.trans (h2.mono hw1.size)⟩
def hat (h : Hk) (n : Int) : Ac := if n = 1 then h.a else if n = 2 then h.b else if n = 3 then h.c else if n = 4 then h.d else .no
theorem hk_a {h : Hk} {w : World} {B : Nat} (hb : Blk w B h.v) : w.rangeAt B 0 h.a.v := by
 have := hb; unfold Hk.v at this
 exact Blk.mid (p := []) this rfl
theorem hk_b {h : Hk} {w : World} {B : Nat} (hb : Blk w B h.v) : w.rangeAt B 12 h.b.v := by
 have := hb; unfold Hk.v at this
 exact Blk.mid (p := h.a.v) this rfl
theorem hk_c {h : Hk} {w : World} {B : Nat} (hb : Blk w B h.v) : w.rangeAt B 24 h.c.v := by
 have := hb; unfold Hk.v at this
 rw [← List.append_assoc] at this
 exact Blk.mid (p := h.a.v ++ h.b.v) this rfl
theorem hk_d {h : Hk} {w : World} {B : Nat} (hb : Blk w B h.v) : w.rangeAt B 36 h.d.v := by
 have := hb; unfold Hk.v at this
 rw [← List.append_assoc, ← List.append_assoc, ← List.append_nil h.d.v] at this
 exact Blk.mid (p := (h.a.v ++ h.b.v) ++ h.c.v) this rfl
theorem bld_act0 (w : World) : (Instr.build 31 #[]).run Tryz.prog w = .ok (.agg Ac.no.v.toArray) w := by kernel_rfl
set_option maxRecDepth 1000000 in
set_option maxHeartbeats 4000000 in
theorem act_any (h : Hk) (n : Int) (w : World) : Calls Tryz.prog 100 #[.agg h.v.toArray, .int .i64 n] w fun e w' => e = .returned (.agg (hat h n).v.toArray) ∧ Below w.heap.size w w' := by
 obtain ⟨L, hL⟩ : ∃ L, L = h.v := ⟨_, rfl⟩
 obtain ⟨W1, hW1⟩ : ∃ W1, W1 = (w.alloc (.cells L.toArray 33)).alloc (.cells #[.int .i64 0, .string ⟨#[]⟩, .string ⟨#[]⟩, .slice none 0 0, .int .i64 0, .string ⟨#[]⟩, .int .u64 0, .int .u64 0, .string ⟨#[]⟩, .slice none 0 0, .slice none 0 0, .int .i64 0] 31) := ⟨_, rfl⟩
 have hb : Blk W1 w.heap.size h.v := by rw [hW1, hL]; exact (Blk.new _ _ _).alloc _
 have hr : Blk W1 (w.heap.size + 1) Ac.no.v := by
  rw [hW1]
  have := Blk.new (w.alloc (.cells L.toArray 33)) Ac.no.v 31
  rw [show (w.alloc (.cells L.toArray 33)).heap.size = w.heap.size + 1 by simp] at this
  exact this
 have hw1 : Below w.heap.size w W1 := by rw [hW1]; exact ((Below.refl _ _).alloc (Nat.le_refl _) _).alloc (by simp) _
 have fin : ∀ x : Ac, Blk (W1.setCells (w.heap.size + 1) 0 x.v) (w.heap.size + 1) x.v ∧ Below w.heap.size w (W1.setCells (w.heap.size + 1) 0 x.v) := fun x => ⟨hr.all _ rfl, xbelow_sc hw1 (by omega) _ _⟩
 rw [← hL]
 clear hL
 by_cases e1 : n = 1
 ·subst e1
  obtain ⟨X, hX⟩ : ∃ X, X = h.a := ⟨_, rfl⟩
  have hm := hk_a hb
  rw [← hX] at hm
  obtain ⟨f1, f2⟩ := fin X
  rw [show hat h 1 = X by rw [hX]; rfl]
  clear hX hb fin
  go_enter Tryz.func100, Tryz.ntmps100
  go_upto_region 1 with fail
  rw [← hW1]
  clear hW1
  go_wp2_with (first
   | (refine wpl_ld row_Act rfl (.tmp 8) rfl (vs := X.v) rfl hm X.len ?_)
   | (refine wpl_st row_Act rfl (.tmp 4) (.tmp 9) rfl (us := X.v) rfl rfl hr rfl X.len X.one ?_; generalize W1.setCells (w.heap.size + 1) 0 X.v = Wf at *))
  exact bodyPost_ret (res_row row_Act Tryz.results100 rfl f1 X.len) rfl ⟨rfl, f2⟩
 ·skip
  by_cases e2 : n = 2
  ·subst e2
   obtain ⟨X, hX⟩ : ∃ X, X = h.b := ⟨_, rfl⟩
   have hm := hk_b hb
   rw [← hX] at hm
   obtain ⟨f1, f2⟩ := fin X
   rw [show hat h 2 = X by rw [hX]; rfl]
   clear hX hb fin
   go_enter Tryz.func100, Tryz.ntmps100
   go_upto_region 1 with fail
   rw [← hW1]
   clear hW1
   go_wp2_with (first
    | (refine wpl_ld row_Act rfl (.tmp 12) rfl (vs := X.v) rfl hm X.len ?_)
    | (refine wpl_st row_Act rfl (.tmp 4) (.tmp 13) rfl (us := X.v) rfl rfl hr rfl X.len X.one ?_; generalize W1.setCells (w.heap.size + 1) 0 X.v = Wf at *))
   exact bodyPost_ret (res_row row_Act Tryz.results100 rfl f1 X.len) rfl ⟨rfl, f2⟩
  ·skip
   by_cases e3 : n = 3
   ·subst e3
    obtain ⟨X, hX⟩ : ∃ X, X = h.c := ⟨_, rfl⟩
    have hm := hk_c hb
    rw [← hX] at hm
    obtain ⟨f1, f2⟩ := fin X
    rw [show hat h 3 = X by rw [hX]; rfl]
    clear hX hb fin
    go_enter Tryz.func100, Tryz.ntmps100
    go_upto_region 1 with fail
    rw [← hW1]
    clear hW1
    go_wp2_with (first
     | (refine wpl_ld row_Act rfl (.tmp 16) rfl (vs := X.v) rfl hm X.len ?_)
     | (refine wpl_st row_Act rfl (.tmp 4) (.tmp 17) rfl (us := X.v) rfl rfl hr rfl X.len X.one ?_; generalize W1.setCells (w.heap.size + 1) 0 X.v = Wf at *))
    exact bodyPost_ret (res_row row_Act Tryz.results100 rfl f1 X.len) rfl ⟨rfl, f2⟩
   ·skip
    by_cases e4 : n = 4
    ·subst e4
     obtain ⟨X, hX⟩ : ∃ X, X = h.d := ⟨_, rfl⟩
     have hm := hk_d hb
     rw [← hX] at hm
     obtain ⟨f1, f2⟩ := fin X
     rw [show hat h 4 = X by rw [hX]; rfl]
     clear hX hb fin
     go_enter Tryz.func100, Tryz.ntmps100
     go_upto_region 1 with fail
     rw [← hW1]
     clear hW1
     go_wp2_with (first
      | (refine wpl_ld row_Act rfl (.tmp 20) rfl (vs := X.v) rfl hm X.len ?_)
      | (refine wpl_st row_Act rfl (.tmp 4) (.tmp 21) rfl (us := X.v) rfl rfl hr rfl X.len X.one ?_; generalize W1.setCells (w.heap.size + 1) 0 X.v = Wf at *))
     exact bodyPost_ret (res_row row_Act Tryz.results100 rfl f1 X.len) rfl ⟨rfl, f2⟩
    ·skip
     obtain ⟨f1, f2⟩ := fin .no
     rw [show hat h n = .no by unfold hat; rw [if_neg e1, if_neg e2, if_neg e3, if_neg e4]]
     clear fin hb
     go_enter Tryz.func100, Tryz.ntmps100
     go_upto_region 1 with fail
     rw [← hW1]
     clear hW1
     go_wp2_with (first
      | (refine wpl_bld rfl _ _ rfl [] rfl (bld_act0 _) ?_)
      | (refine wpl_st row_Act rfl (.tmp 4) (.tmp 22) rfl (us := Ac.no.v) rfl rfl hr rfl rfl Ac.no.one ?_; generalize W1.setCells (w.heap.size + 1) 0 Ac.no.v = Wf at *))
     exact bodyPost_ret (res_row row_Act Tryz.results100 rfl f1 rfl) rfl ⟨rfl, f2⟩
end Go.Proofs.YtjfmhghpkefihaaGreatDoor
