/- The document's In, at the kinds without parts. -/
import Derived.Test.YtlgieoabellbmaaGreatDoorPt7
namespace Go.Proofs.YtlgieoabellbmaaGreatDoor
open Go.RowKit
set_option linter.unusedVariables false
set_option linter.unusedSimpArgs false
theorem bel2 (w : World) (a b : Obj) : Below w.heap.size w ((w.alloc a).alloc b) := ((Below.refl _ _).alloc (Nat.le_refl _) _).alloc (by simp) _
theorem bel3 (w : World) (a b c : Obj) : Below w.heap.size w (((w.alloc a).alloc b).alloc c) := (bel2 w a b).alloc (by simp; omega) _
def inBits (k b : Int) : Int := if k = 1 then b % 2 else if 2 ≤ k ∧ k ≤ 11 then numF k b else if k = 12 ∨ k = 14 then b % 4294967296 else if k = 13 ∨ k = 15 ∨ k = 22 then b else 0
def inImag (k b : Int) : Int := if k = 14 then b % 4294967296 else if k = 15 then b else 0
def inText (k : Int) (s : ByteArray) : ByteArray := if k = 16 ∨ k = 17 then s else ⟨#[]⟩
def inFlat (d : D) : D := if d.kind = 0 then ⟨0, ⟨#[]⟩, 0, 0, ⟨#[]⟩, [], [], 0⟩ else ⟨d.kind, d.ty, inBits d.kind d.bits, inImag d.kind d.imag, inText d.kind d.text, [], [], d.hook⟩
set_option maxRecDepth 1000000 in
set_option maxHeartbeats 4000000 in
theorem oin_0 (ty : ByteArray) (bits imag : Int) (text : ByteArray) (names : List ByteArray) (parts : List D) (hook : Int) (na pa : Option Addr) (nl nc pl pc : Nat) (w : World) (h0 : 0 ≤ bits) (h1 : bits ≤ 18446744073709551615) (h2 : 0 ≤ imag) (h3 : imag ≤ 18446744073709551615) :
  Calls Tryz.prog 35 #[DV ⟨0, ty, bits, imag, text, names, parts, hook⟩ (.slice na nl nc) (.slice pa pl pc)] w fun e w' => e = .returned (DV ⟨0, ⟨#[]⟩, 0, 0, ⟨#[]⟩, [], [], 0⟩ (.slice none 0 0) (.slice none 0 0)) ∧ Below w.heap.size w w' := by
 go_enter Tryz.func35, Tryz.ntmps35
 go_wp2
 go_returns
 exact ⟨rfl, by first | exact bel3 _ _ _ _ | exact bel2 _ _ _⟩
set_option maxRecDepth 1000000 in
set_option maxHeartbeats 4000000 in
theorem oin_1 (ty : ByteArray) (bits imag : Int) (text : ByteArray) (names : List ByteArray) (parts : List D) (hook : Int) (na pa : Option Addr) (nl nc pl pc : Nat) (w : World) (h0 : 0 ≤ bits) (h1 : bits ≤ 18446744073709551615) (h2 : 0 ≤ imag) (h3 : imag ≤ 18446744073709551615) :
  Calls Tryz.prog 35 #[DV ⟨1, ty, bits, imag, text, names, parts, hook⟩ (.slice na nl nc) (.slice pa pl pc)] w fun e w' => e = .returned (DV ⟨1, ty, (bits % 2), 0, ⟨#[]⟩, [], [], hook⟩ (.slice none 0 0) (.slice none 0 0)) ∧ Below w.heap.size w w' := by
 have hgr : ∀ W, Calls Tryz.prog 68 #[.int .i64 1] W fun e w' => e = .returned (.bool false) ∧ w' = W := fun W => ogreat_any 1 W
 go_enter Tryz.func35, Tryz.ntmps35
 go_wp2_with (first | (go_at_call 68; refine (hgr _).mono ?_; rintro e w1 ⟨rfl, hw⟩; rw [hw]; clear hw))
 go_returns
 exact ⟨rfl, by first | exact bel3 _ _ _ _ | exact bel2 _ _ _⟩
set_option maxRecDepth 1000000 in
set_option maxHeartbeats 4000000 in
theorem oin_2 (ty : ByteArray) (bits imag : Int) (text : ByteArray) (names : List ByteArray) (parts : List D) (hook : Int) (na pa : Option Addr) (nl nc pl pc : Nat) (w : World) (h0 : 0 ≤ bits) (h1 : bits ≤ 18446744073709551615) (h2 : 0 ≤ imag) (h3 : imag ≤ 18446744073709551615) :
  Calls Tryz.prog 35 #[DV ⟨2, ty, bits, imag, text, names, parts, hook⟩ (.slice na nl nc) (.slice pa pl pc)] w fun e w' => e = .returned (DV ⟨2, ty, (numF 2 bits), 0, ⟨#[]⟩, [], [], hook⟩ (.slice none 0 0) (.slice none 0 0)) ∧ Below w.heap.size w w' := by
 generalize hnb : numF 2 bits = nb
 have hwh : ∀ W, Calls Tryz.prog 66 #[.int .i64 2] W fun e w' => e = .returned (.bool true) ∧ w' = W := fun W => owhole_any 2 W
 have hgr : ∀ W, Calls Tryz.prog 68 #[.int .i64 2] W fun e w' => e = .returned (.bool false) ∧ w' = W := fun W => ogreat_any 2 W
 have hnu : ∀ W, Calls Tryz.prog 67 #[.int .i64 2, .int .u64 bits] W fun e w' => e = .returned (.int .u64 nb) ∧ w' = W := fun W => by rw [← hnb]; exact onumber_any 2 bits W h0 h1 (by decide)
 clear hnb
 go_enter Tryz.func35, Tryz.ntmps35
 go_wp2_with (first | (go_at_call 66; refine (hwh _).mono ?_; rintro e w1 ⟨rfl, hw⟩; rw [hw]; clear hw) | (go_at_call 68; refine (hgr _).mono ?_; rintro e w1 ⟨rfl, hw⟩; rw [hw]; clear hw) | (go_at_call 67; refine (hnu _).mono ?_; rintro e w1 ⟨rfl, hw⟩; rw [hw]; clear hw))
 go_returns
 exact ⟨rfl, by first | exact bel3 _ _ _ _ | exact bel2 _ _ _⟩
set_option maxRecDepth 1000000 in
set_option maxHeartbeats 4000000 in
theorem oin_3 (ty : ByteArray) (bits imag : Int) (text : ByteArray) (names : List ByteArray) (parts : List D) (hook : Int) (na pa : Option Addr) (nl nc pl pc : Nat) (w : World) (h0 : 0 ≤ bits) (h1 : bits ≤ 18446744073709551615) (h2 : 0 ≤ imag) (h3 : imag ≤ 18446744073709551615) :
  Calls Tryz.prog 35 #[DV ⟨3, ty, bits, imag, text, names, parts, hook⟩ (.slice na nl nc) (.slice pa pl pc)] w fun e w' => e = .returned (DV ⟨3, ty, (numF 3 bits), 0, ⟨#[]⟩, [], [], hook⟩ (.slice none 0 0) (.slice none 0 0)) ∧ Below w.heap.size w w' := by
 generalize hnb : numF 3 bits = nb
 have hwh : ∀ W, Calls Tryz.prog 66 #[.int .i64 3] W fun e w' => e = .returned (.bool true) ∧ w' = W := fun W => owhole_any 3 W
 have hgr : ∀ W, Calls Tryz.prog 68 #[.int .i64 3] W fun e w' => e = .returned (.bool false) ∧ w' = W := fun W => ogreat_any 3 W
 have hnu : ∀ W, Calls Tryz.prog 67 #[.int .i64 3, .int .u64 bits] W fun e w' => e = .returned (.int .u64 nb) ∧ w' = W := fun W => by rw [← hnb]; exact onumber_any 3 bits W h0 h1 (by decide)
 clear hnb
 go_enter Tryz.func35, Tryz.ntmps35
 go_wp2_with (first | (go_at_call 66; refine (hwh _).mono ?_; rintro e w1 ⟨rfl, hw⟩; rw [hw]; clear hw) | (go_at_call 68; refine (hgr _).mono ?_; rintro e w1 ⟨rfl, hw⟩; rw [hw]; clear hw) | (go_at_call 67; refine (hnu _).mono ?_; rintro e w1 ⟨rfl, hw⟩; rw [hw]; clear hw))
 go_returns
 exact ⟨rfl, by first | exact bel3 _ _ _ _ | exact bel2 _ _ _⟩
set_option maxRecDepth 1000000 in
set_option maxHeartbeats 4000000 in
theorem oin_4 (ty : ByteArray) (bits imag : Int) (text : ByteArray) (names : List ByteArray) (parts : List D) (hook : Int) (na pa : Option Addr) (nl nc pl pc : Nat) (w : World) (h0 : 0 ≤ bits) (h1 : bits ≤ 18446744073709551615) (h2 : 0 ≤ imag) (h3 : imag ≤ 18446744073709551615) :
  Calls Tryz.prog 35 #[DV ⟨4, ty, bits, imag, text, names, parts, hook⟩ (.slice na nl nc) (.slice pa pl pc)] w fun e w' => e = .returned (DV ⟨4, ty, (numF 4 bits), 0, ⟨#[]⟩, [], [], hook⟩ (.slice none 0 0) (.slice none 0 0)) ∧ Below w.heap.size w w' := by
 generalize hnb : numF 4 bits = nb
 have hwh : ∀ W, Calls Tryz.prog 66 #[.int .i64 4] W fun e w' => e = .returned (.bool true) ∧ w' = W := fun W => owhole_any 4 W
 have hgr : ∀ W, Calls Tryz.prog 68 #[.int .i64 4] W fun e w' => e = .returned (.bool false) ∧ w' = W := fun W => ogreat_any 4 W
 have hnu : ∀ W, Calls Tryz.prog 67 #[.int .i64 4, .int .u64 bits] W fun e w' => e = .returned (.int .u64 nb) ∧ w' = W := fun W => by rw [← hnb]; exact onumber_any 4 bits W h0 h1 (by decide)
 clear hnb
 go_enter Tryz.func35, Tryz.ntmps35
 go_wp2_with (first | (go_at_call 66; refine (hwh _).mono ?_; rintro e w1 ⟨rfl, hw⟩; rw [hw]; clear hw) | (go_at_call 68; refine (hgr _).mono ?_; rintro e w1 ⟨rfl, hw⟩; rw [hw]; clear hw) | (go_at_call 67; refine (hnu _).mono ?_; rintro e w1 ⟨rfl, hw⟩; rw [hw]; clear hw))
 go_returns
 exact ⟨rfl, by first | exact bel3 _ _ _ _ | exact bel2 _ _ _⟩
set_option maxRecDepth 1000000 in
set_option maxHeartbeats 4000000 in
theorem oin_5 (ty : ByteArray) (bits imag : Int) (text : ByteArray) (names : List ByteArray) (parts : List D) (hook : Int) (na pa : Option Addr) (nl nc pl pc : Nat) (w : World) (h0 : 0 ≤ bits) (h1 : bits ≤ 18446744073709551615) (h2 : 0 ≤ imag) (h3 : imag ≤ 18446744073709551615) :
  Calls Tryz.prog 35 #[DV ⟨5, ty, bits, imag, text, names, parts, hook⟩ (.slice na nl nc) (.slice pa pl pc)] w fun e w' => e = .returned (DV ⟨5, ty, (numF 5 bits), 0, ⟨#[]⟩, [], [], hook⟩ (.slice none 0 0) (.slice none 0 0)) ∧ Below w.heap.size w w' := by
 generalize hnb : numF 5 bits = nb
 have hwh : ∀ W, Calls Tryz.prog 66 #[.int .i64 5] W fun e w' => e = .returned (.bool true) ∧ w' = W := fun W => owhole_any 5 W
 have hgr : ∀ W, Calls Tryz.prog 68 #[.int .i64 5] W fun e w' => e = .returned (.bool false) ∧ w' = W := fun W => ogreat_any 5 W
 have hnu : ∀ W, Calls Tryz.prog 67 #[.int .i64 5, .int .u64 bits] W fun e w' => e = .returned (.int .u64 nb) ∧ w' = W := fun W => by rw [← hnb]; exact onumber_any 5 bits W h0 h1 (by decide)
 clear hnb
 go_enter Tryz.func35, Tryz.ntmps35
 go_wp2_with (first | (go_at_call 66; refine (hwh _).mono ?_; rintro e w1 ⟨rfl, hw⟩; rw [hw]; clear hw) | (go_at_call 68; refine (hgr _).mono ?_; rintro e w1 ⟨rfl, hw⟩; rw [hw]; clear hw) | (go_at_call 67; refine (hnu _).mono ?_; rintro e w1 ⟨rfl, hw⟩; rw [hw]; clear hw))
 go_returns
 exact ⟨rfl, by first | exact bel3 _ _ _ _ | exact bel2 _ _ _⟩
set_option maxRecDepth 1000000 in
set_option maxHeartbeats 4000000 in
theorem oin_6 (ty : ByteArray) (bits imag : Int) (text : ByteArray) (names : List ByteArray) (parts : List D) (hook : Int) (na pa : Option Addr) (nl nc pl pc : Nat) (w : World) (h0 : 0 ≤ bits) (h1 : bits ≤ 18446744073709551615) (h2 : 0 ≤ imag) (h3 : imag ≤ 18446744073709551615) :
  Calls Tryz.prog 35 #[DV ⟨6, ty, bits, imag, text, names, parts, hook⟩ (.slice na nl nc) (.slice pa pl pc)] w fun e w' => e = .returned (DV ⟨6, ty, (numF 6 bits), 0, ⟨#[]⟩, [], [], hook⟩ (.slice none 0 0) (.slice none 0 0)) ∧ Below w.heap.size w w' := by
 generalize hnb : numF 6 bits = nb
 have hwh : ∀ W, Calls Tryz.prog 66 #[.int .i64 6] W fun e w' => e = .returned (.bool true) ∧ w' = W := fun W => owhole_any 6 W
 have hgr : ∀ W, Calls Tryz.prog 68 #[.int .i64 6] W fun e w' => e = .returned (.bool false) ∧ w' = W := fun W => ogreat_any 6 W
 have hnu : ∀ W, Calls Tryz.prog 67 #[.int .i64 6, .int .u64 bits] W fun e w' => e = .returned (.int .u64 nb) ∧ w' = W := fun W => by rw [← hnb]; exact onumber_any 6 bits W h0 h1 (by decide)
 clear hnb
 go_enter Tryz.func35, Tryz.ntmps35
 go_wp2_with (first | (go_at_call 66; refine (hwh _).mono ?_; rintro e w1 ⟨rfl, hw⟩; rw [hw]; clear hw) | (go_at_call 68; refine (hgr _).mono ?_; rintro e w1 ⟨rfl, hw⟩; rw [hw]; clear hw) | (go_at_call 67; refine (hnu _).mono ?_; rintro e w1 ⟨rfl, hw⟩; rw [hw]; clear hw))
 go_returns
 exact ⟨rfl, by first | exact bel3 _ _ _ _ | exact bel2 _ _ _⟩
set_option maxRecDepth 1000000 in
set_option maxHeartbeats 4000000 in
theorem oin_7 (ty : ByteArray) (bits imag : Int) (text : ByteArray) (names : List ByteArray) (parts : List D) (hook : Int) (na pa : Option Addr) (nl nc pl pc : Nat) (w : World) (h0 : 0 ≤ bits) (h1 : bits ≤ 18446744073709551615) (h2 : 0 ≤ imag) (h3 : imag ≤ 18446744073709551615) :
  Calls Tryz.prog 35 #[DV ⟨7, ty, bits, imag, text, names, parts, hook⟩ (.slice na nl nc) (.slice pa pl pc)] w fun e w' => e = .returned (DV ⟨7, ty, (numF 7 bits), 0, ⟨#[]⟩, [], [], hook⟩ (.slice none 0 0) (.slice none 0 0)) ∧ Below w.heap.size w w' := by
 generalize hnb : numF 7 bits = nb
 have hwh : ∀ W, Calls Tryz.prog 66 #[.int .i64 7] W fun e w' => e = .returned (.bool true) ∧ w' = W := fun W => owhole_any 7 W
 have hgr : ∀ W, Calls Tryz.prog 68 #[.int .i64 7] W fun e w' => e = .returned (.bool false) ∧ w' = W := fun W => ogreat_any 7 W
 have hnu : ∀ W, Calls Tryz.prog 67 #[.int .i64 7, .int .u64 bits] W fun e w' => e = .returned (.int .u64 nb) ∧ w' = W := fun W => by rw [← hnb]; exact onumber_any 7 bits W h0 h1 (by decide)
 clear hnb
 go_enter Tryz.func35, Tryz.ntmps35
 go_wp2_with (first | (go_at_call 66; refine (hwh _).mono ?_; rintro e w1 ⟨rfl, hw⟩; rw [hw]; clear hw) | (go_at_call 68; refine (hgr _).mono ?_; rintro e w1 ⟨rfl, hw⟩; rw [hw]; clear hw) | (go_at_call 67; refine (hnu _).mono ?_; rintro e w1 ⟨rfl, hw⟩; rw [hw]; clear hw))
 go_returns
 exact ⟨rfl, by first | exact bel3 _ _ _ _ | exact bel2 _ _ _⟩
set_option maxRecDepth 1000000 in
set_option maxHeartbeats 4000000 in
theorem oin_8 (ty : ByteArray) (bits imag : Int) (text : ByteArray) (names : List ByteArray) (parts : List D) (hook : Int) (na pa : Option Addr) (nl nc pl pc : Nat) (w : World) (h0 : 0 ≤ bits) (h1 : bits ≤ 18446744073709551615) (h2 : 0 ≤ imag) (h3 : imag ≤ 18446744073709551615) :
  Calls Tryz.prog 35 #[DV ⟨8, ty, bits, imag, text, names, parts, hook⟩ (.slice na nl nc) (.slice pa pl pc)] w fun e w' => e = .returned (DV ⟨8, ty, (numF 8 bits), 0, ⟨#[]⟩, [], [], hook⟩ (.slice none 0 0) (.slice none 0 0)) ∧ Below w.heap.size w w' := by
 generalize hnb : numF 8 bits = nb
 have hwh : ∀ W, Calls Tryz.prog 66 #[.int .i64 8] W fun e w' => e = .returned (.bool true) ∧ w' = W := fun W => owhole_any 8 W
 have hgr : ∀ W, Calls Tryz.prog 68 #[.int .i64 8] W fun e w' => e = .returned (.bool false) ∧ w' = W := fun W => ogreat_any 8 W
 have hnu : ∀ W, Calls Tryz.prog 67 #[.int .i64 8, .int .u64 bits] W fun e w' => e = .returned (.int .u64 nb) ∧ w' = W := fun W => by rw [← hnb]; exact onumber_any 8 bits W h0 h1 (by decide)
 clear hnb
 go_enter Tryz.func35, Tryz.ntmps35
 go_wp2_with (first | (go_at_call 66; refine (hwh _).mono ?_; rintro e w1 ⟨rfl, hw⟩; rw [hw]; clear hw) | (go_at_call 68; refine (hgr _).mono ?_; rintro e w1 ⟨rfl, hw⟩; rw [hw]; clear hw) | (go_at_call 67; refine (hnu _).mono ?_; rintro e w1 ⟨rfl, hw⟩; rw [hw]; clear hw))
 go_returns
 exact ⟨rfl, by first | exact bel3 _ _ _ _ | exact bel2 _ _ _⟩
set_option maxRecDepth 1000000 in
set_option maxHeartbeats 4000000 in
theorem oin_9 (ty : ByteArray) (bits imag : Int) (text : ByteArray) (names : List ByteArray) (parts : List D) (hook : Int) (na pa : Option Addr) (nl nc pl pc : Nat) (w : World) (h0 : 0 ≤ bits) (h1 : bits ≤ 18446744073709551615) (h2 : 0 ≤ imag) (h3 : imag ≤ 18446744073709551615) :
  Calls Tryz.prog 35 #[DV ⟨9, ty, bits, imag, text, names, parts, hook⟩ (.slice na nl nc) (.slice pa pl pc)] w fun e w' => e = .returned (DV ⟨9, ty, (numF 9 bits), 0, ⟨#[]⟩, [], [], hook⟩ (.slice none 0 0) (.slice none 0 0)) ∧ Below w.heap.size w w' := by
 generalize hnb : numF 9 bits = nb
 have hwh : ∀ W, Calls Tryz.prog 66 #[.int .i64 9] W fun e w' => e = .returned (.bool true) ∧ w' = W := fun W => owhole_any 9 W
 have hgr : ∀ W, Calls Tryz.prog 68 #[.int .i64 9] W fun e w' => e = .returned (.bool false) ∧ w' = W := fun W => ogreat_any 9 W
 have hnu : ∀ W, Calls Tryz.prog 67 #[.int .i64 9, .int .u64 bits] W fun e w' => e = .returned (.int .u64 nb) ∧ w' = W := fun W => by rw [← hnb]; exact onumber_any 9 bits W h0 h1 (by decide)
 clear hnb
 go_enter Tryz.func35, Tryz.ntmps35
 go_wp2_with (first | (go_at_call 66; refine (hwh _).mono ?_; rintro e w1 ⟨rfl, hw⟩; rw [hw]; clear hw) | (go_at_call 68; refine (hgr _).mono ?_; rintro e w1 ⟨rfl, hw⟩; rw [hw]; clear hw) | (go_at_call 67; refine (hnu _).mono ?_; rintro e w1 ⟨rfl, hw⟩; rw [hw]; clear hw))
 go_returns
 exact ⟨rfl, by first | exact bel3 _ _ _ _ | exact bel2 _ _ _⟩
set_option maxRecDepth 1000000 in
set_option maxHeartbeats 4000000 in
theorem oin_10 (ty : ByteArray) (bits imag : Int) (text : ByteArray) (names : List ByteArray) (parts : List D) (hook : Int) (na pa : Option Addr) (nl nc pl pc : Nat) (w : World) (h0 : 0 ≤ bits) (h1 : bits ≤ 18446744073709551615) (h2 : 0 ≤ imag) (h3 : imag ≤ 18446744073709551615) :
  Calls Tryz.prog 35 #[DV ⟨10, ty, bits, imag, text, names, parts, hook⟩ (.slice na nl nc) (.slice pa pl pc)] w fun e w' => e = .returned (DV ⟨10, ty, (numF 10 bits), 0, ⟨#[]⟩, [], [], hook⟩ (.slice none 0 0) (.slice none 0 0)) ∧ Below w.heap.size w w' := by
 generalize hnb : numF 10 bits = nb
 have hwh : ∀ W, Calls Tryz.prog 66 #[.int .i64 10] W fun e w' => e = .returned (.bool true) ∧ w' = W := fun W => owhole_any 10 W
 have hgr : ∀ W, Calls Tryz.prog 68 #[.int .i64 10] W fun e w' => e = .returned (.bool false) ∧ w' = W := fun W => ogreat_any 10 W
 have hnu : ∀ W, Calls Tryz.prog 67 #[.int .i64 10, .int .u64 bits] W fun e w' => e = .returned (.int .u64 nb) ∧ w' = W := fun W => by rw [← hnb]; exact onumber_any 10 bits W h0 h1 (by decide)
 clear hnb
 go_enter Tryz.func35, Tryz.ntmps35
 go_wp2_with (first | (go_at_call 66; refine (hwh _).mono ?_; rintro e w1 ⟨rfl, hw⟩; rw [hw]; clear hw) | (go_at_call 68; refine (hgr _).mono ?_; rintro e w1 ⟨rfl, hw⟩; rw [hw]; clear hw) | (go_at_call 67; refine (hnu _).mono ?_; rintro e w1 ⟨rfl, hw⟩; rw [hw]; clear hw))
 go_returns
 exact ⟨rfl, by first | exact bel3 _ _ _ _ | exact bel2 _ _ _⟩
set_option maxRecDepth 1000000 in
set_option maxHeartbeats 4000000 in
theorem oin_11 (ty : ByteArray) (bits imag : Int) (text : ByteArray) (names : List ByteArray) (parts : List D) (hook : Int) (na pa : Option Addr) (nl nc pl pc : Nat) (w : World) (h0 : 0 ≤ bits) (h1 : bits ≤ 18446744073709551615) (h2 : 0 ≤ imag) (h3 : imag ≤ 18446744073709551615) :
  Calls Tryz.prog 35 #[DV ⟨11, ty, bits, imag, text, names, parts, hook⟩ (.slice na nl nc) (.slice pa pl pc)] w fun e w' => e = .returned (DV ⟨11, ty, (numF 11 bits), 0, ⟨#[]⟩, [], [], hook⟩ (.slice none 0 0) (.slice none 0 0)) ∧ Below w.heap.size w w' := by
 generalize hnb : numF 11 bits = nb
 have hwh : ∀ W, Calls Tryz.prog 66 #[.int .i64 11] W fun e w' => e = .returned (.bool true) ∧ w' = W := fun W => owhole_any 11 W
 have hgr : ∀ W, Calls Tryz.prog 68 #[.int .i64 11] W fun e w' => e = .returned (.bool false) ∧ w' = W := fun W => ogreat_any 11 W
 have hnu : ∀ W, Calls Tryz.prog 67 #[.int .i64 11, .int .u64 bits] W fun e w' => e = .returned (.int .u64 nb) ∧ w' = W := fun W => by rw [← hnb]; exact onumber_any 11 bits W h0 h1 (by decide)
 clear hnb
 go_enter Tryz.func35, Tryz.ntmps35
 go_wp2_with (first | (go_at_call 66; refine (hwh _).mono ?_; rintro e w1 ⟨rfl, hw⟩; rw [hw]; clear hw) | (go_at_call 68; refine (hgr _).mono ?_; rintro e w1 ⟨rfl, hw⟩; rw [hw]; clear hw) | (go_at_call 67; refine (hnu _).mono ?_; rintro e w1 ⟨rfl, hw⟩; rw [hw]; clear hw))
 go_returns
 exact ⟨rfl, by first | exact bel3 _ _ _ _ | exact bel2 _ _ _⟩
set_option maxRecDepth 1000000 in
set_option maxHeartbeats 4000000 in
theorem oin_12 (ty : ByteArray) (bits imag : Int) (text : ByteArray) (names : List ByteArray) (parts : List D) (hook : Int) (na pa : Option Addr) (nl nc pl pc : Nat) (w : World) (h0 : 0 ≤ bits) (h1 : bits ≤ 18446744073709551615) (h2 : 0 ≤ imag) (h3 : imag ≤ 18446744073709551615) :
  Calls Tryz.prog 35 #[DV ⟨12, ty, bits, imag, text, names, parts, hook⟩ (.slice na nl nc) (.slice pa pl pc)] w fun e w' => e = .returned (DV ⟨12, ty, (bits % 4294967296), 0, ⟨#[]⟩, [], [], hook⟩ (.slice none 0 0) (.slice none 0 0)) ∧ Below w.heap.size w w' := by
 have hwh : ∀ W, Calls Tryz.prog 66 #[.int .i64 12] W fun e w' => e = .returned (.bool false) ∧ w' = W := fun W => owhole_any 12 W
 have hgr : ∀ W, Calls Tryz.prog 68 #[.int .i64 12] W fun e w' => e = .returned (.bool false) ∧ w' = W := fun W => ogreat_any 12 W
 go_enter Tryz.func35, Tryz.ntmps35
 go_wp2_with (first | (go_at_call 66; refine (hwh _).mono ?_; rintro e w1 ⟨rfl, hw⟩; rw [hw]; clear hw) | (go_at_call 68; refine (hgr _).mono ?_; rintro e w1 ⟨rfl, hw⟩; rw [hw]; clear hw))
 go_returns
 exact ⟨rfl, by first | exact bel3 _ _ _ _ | exact bel2 _ _ _⟩
set_option maxRecDepth 1000000 in
set_option maxHeartbeats 4000000 in
theorem oin_13 (ty : ByteArray) (bits imag : Int) (text : ByteArray) (names : List ByteArray) (parts : List D) (hook : Int) (na pa : Option Addr) (nl nc pl pc : Nat) (w : World) (h0 : 0 ≤ bits) (h1 : bits ≤ 18446744073709551615) (h2 : 0 ≤ imag) (h3 : imag ≤ 18446744073709551615) :
  Calls Tryz.prog 35 #[DV ⟨13, ty, bits, imag, text, names, parts, hook⟩ (.slice na nl nc) (.slice pa pl pc)] w fun e w' => e = .returned (DV ⟨13, ty, (bits), 0, ⟨#[]⟩, [], [], hook⟩ (.slice none 0 0) (.slice none 0 0)) ∧ Below w.heap.size w w' := by
 have hwh : ∀ W, Calls Tryz.prog 66 #[.int .i64 13] W fun e w' => e = .returned (.bool false) ∧ w' = W := fun W => owhole_any 13 W
 have hgr : ∀ W, Calls Tryz.prog 68 #[.int .i64 13] W fun e w' => e = .returned (.bool false) ∧ w' = W := fun W => ogreat_any 13 W
 go_enter Tryz.func35, Tryz.ntmps35
 go_wp2_with (first | (go_at_call 66; refine (hwh _).mono ?_; rintro e w1 ⟨rfl, hw⟩; rw [hw]; clear hw) | (go_at_call 68; refine (hgr _).mono ?_; rintro e w1 ⟨rfl, hw⟩; rw [hw]; clear hw))
 go_returns
 exact ⟨rfl, by first | exact bel3 _ _ _ _ | exact bel2 _ _ _⟩
set_option maxRecDepth 1000000 in
set_option maxHeartbeats 4000000 in
theorem oin_14 (ty : ByteArray) (bits imag : Int) (text : ByteArray) (names : List ByteArray) (parts : List D) (hook : Int) (na pa : Option Addr) (nl nc pl pc : Nat) (w : World) (h0 : 0 ≤ bits) (h1 : bits ≤ 18446744073709551615) (h2 : 0 ≤ imag) (h3 : imag ≤ 18446744073709551615) :
  Calls Tryz.prog 35 #[DV ⟨14, ty, bits, imag, text, names, parts, hook⟩ (.slice na nl nc) (.slice pa pl pc)] w fun e w' => e = .returned (DV ⟨14, ty, (bits % 4294967296), (imag % 4294967296), ⟨#[]⟩, [], [], hook⟩ (.slice none 0 0) (.slice none 0 0)) ∧ Below w.heap.size w w' := by
 have hwh : ∀ W, Calls Tryz.prog 66 #[.int .i64 14] W fun e w' => e = .returned (.bool false) ∧ w' = W := fun W => owhole_any 14 W
 have hgr : ∀ W, Calls Tryz.prog 68 #[.int .i64 14] W fun e w' => e = .returned (.bool false) ∧ w' = W := fun W => ogreat_any 14 W
 go_enter Tryz.func35, Tryz.ntmps35
 go_wp2_with (first | (go_at_call 66; refine (hwh _).mono ?_; rintro e w1 ⟨rfl, hw⟩; rw [hw]; clear hw) | (go_at_call 68; refine (hgr _).mono ?_; rintro e w1 ⟨rfl, hw⟩; rw [hw]; clear hw))
 go_returns
 exact ⟨rfl, by first | exact bel3 _ _ _ _ | exact bel2 _ _ _⟩
set_option maxRecDepth 1000000 in
set_option maxHeartbeats 4000000 in
theorem oin_15 (ty : ByteArray) (bits imag : Int) (text : ByteArray) (names : List ByteArray) (parts : List D) (hook : Int) (na pa : Option Addr) (nl nc pl pc : Nat) (w : World) (h0 : 0 ≤ bits) (h1 : bits ≤ 18446744073709551615) (h2 : 0 ≤ imag) (h3 : imag ≤ 18446744073709551615) :
  Calls Tryz.prog 35 #[DV ⟨15, ty, bits, imag, text, names, parts, hook⟩ (.slice na nl nc) (.slice pa pl pc)] w fun e w' => e = .returned (DV ⟨15, ty, (bits), imag, ⟨#[]⟩, [], [], hook⟩ (.slice none 0 0) (.slice none 0 0)) ∧ Below w.heap.size w w' := by
 have hwh : ∀ W, Calls Tryz.prog 66 #[.int .i64 15] W fun e w' => e = .returned (.bool false) ∧ w' = W := fun W => owhole_any 15 W
 have hgr : ∀ W, Calls Tryz.prog 68 #[.int .i64 15] W fun e w' => e = .returned (.bool false) ∧ w' = W := fun W => ogreat_any 15 W
 go_enter Tryz.func35, Tryz.ntmps35
 go_wp2_with (first | (go_at_call 66; refine (hwh _).mono ?_; rintro e w1 ⟨rfl, hw⟩; rw [hw]; clear hw) | (go_at_call 68; refine (hgr _).mono ?_; rintro e w1 ⟨rfl, hw⟩; rw [hw]; clear hw))
 go_returns
 exact ⟨rfl, by first | exact bel3 _ _ _ _ | exact bel2 _ _ _⟩
set_option maxRecDepth 1000000 in
set_option maxHeartbeats 4000000 in
theorem oin_16 (ty : ByteArray) (bits imag : Int) (text : ByteArray) (names : List ByteArray) (parts : List D) (hook : Int) (na pa : Option Addr) (nl nc pl pc : Nat) (w : World) (h0 : 0 ≤ bits) (h1 : bits ≤ 18446744073709551615) (h2 : 0 ≤ imag) (h3 : imag ≤ 18446744073709551615) :
  Calls Tryz.prog 35 #[DV ⟨16, ty, bits, imag, text, names, parts, hook⟩ (.slice na nl nc) (.slice pa pl pc)] w fun e w' => e = .returned (DV ⟨16, ty, (0), 0, text, [], [], hook⟩ (.slice none 0 0) (.slice none 0 0)) ∧ Below w.heap.size w w' := by
 have hwh : ∀ W, Calls Tryz.prog 66 #[.int .i64 16] W fun e w' => e = .returned (.bool false) ∧ w' = W := fun W => owhole_any 16 W
 have hgr : ∀ W, Calls Tryz.prog 68 #[.int .i64 16] W fun e w' => e = .returned (.bool false) ∧ w' = W := fun W => ogreat_any 16 W
 go_enter Tryz.func35, Tryz.ntmps35
 go_wp2_with (first | (go_at_call 66; refine (hwh _).mono ?_; rintro e w1 ⟨rfl, hw⟩; rw [hw]; clear hw) | (go_at_call 68; refine (hgr _).mono ?_; rintro e w1 ⟨rfl, hw⟩; rw [hw]; clear hw))
 go_returns
 exact ⟨rfl, by first | exact bel3 _ _ _ _ | exact bel2 _ _ _⟩
set_option maxRecDepth 1000000 in
set_option maxHeartbeats 4000000 in
theorem oin_17 (ty : ByteArray) (bits imag : Int) (text : ByteArray) (names : List ByteArray) (parts : List D) (hook : Int) (na pa : Option Addr) (nl nc pl pc : Nat) (w : World) (h0 : 0 ≤ bits) (h1 : bits ≤ 18446744073709551615) (h2 : 0 ≤ imag) (h3 : imag ≤ 18446744073709551615) :
  Calls Tryz.prog 35 #[DV ⟨17, ty, bits, imag, text, names, parts, hook⟩ (.slice na nl nc) (.slice pa pl pc)] w fun e w' => e = .returned (DV ⟨17, ty, (0), 0, text, [], [], hook⟩ (.slice none 0 0) (.slice none 0 0)) ∧ Below w.heap.size w w' := by
 have hwh : ∀ W, Calls Tryz.prog 66 #[.int .i64 17] W fun e w' => e = .returned (.bool false) ∧ w' = W := fun W => owhole_any 17 W
 have hgr : ∀ W, Calls Tryz.prog 68 #[.int .i64 17] W fun e w' => e = .returned (.bool false) ∧ w' = W := fun W => ogreat_any 17 W
 go_enter Tryz.func35, Tryz.ntmps35
 go_wp2_with (first | (go_at_call 66; refine (hwh _).mono ?_; rintro e w1 ⟨rfl, hw⟩; rw [hw]; clear hw) | (go_at_call 68; refine (hgr _).mono ?_; rintro e w1 ⟨rfl, hw⟩; rw [hw]; clear hw))
 go_returns
 exact ⟨rfl, by first | exact bel3 _ _ _ _ | exact bel2 _ _ _⟩
theorem oin_flat (d : D) (na pa : Option Addr) (nl nc pl pc : Nat) (w : World) (h0 : 0 ≤ d.bits) (h1 : d.bits ≤ 18446744073709551615) (h2 : 0 ≤ d.imag) (h3 : d.imag ≤ 18446744073709551615) (hk0 : 0 ≤ d.kind) (hk1 : d.kind ≤ 17) :
  Calls Tryz.prog 35 #[DV d (.slice na nl nc) (.slice pa pl pc)] w fun e w' => e = .returned (DV (inFlat d) (.slice none 0 0) (.slice none 0 0)) ∧ Below w.heap.size w w' := by
 obtain ⟨kind, ty, bits, imag, text, names, parts, hook⟩ := d
 simp only at h0 h1 h2 h3 hk0 hk1
 have h : kind = 0 ∨ kind = 1 ∨ kind = 2 ∨ kind = 3 ∨ kind = 4 ∨ kind = 5 ∨ kind = 6 ∨ kind = 7 ∨ kind = 8 ∨ kind = 9 ∨ kind = 10 ∨ kind = 11 ∨ kind = 12 ∨ kind = 13 ∨ kind = 14 ∨ kind = 15 ∨ kind = 16 ∨ kind = 17 := by omega
 rcases h with rfl | rfl | rfl | rfl | rfl | rfl | rfl | rfl | rfl | rfl | rfl | rfl | rfl | rfl | rfl | rfl | rfl | rfl
 ·exact oin_0 ty bits imag text names parts hook na pa nl nc pl pc w h0 h1 h2 h3
 ·exact oin_1 ty bits imag text names parts hook na pa nl nc pl pc w h0 h1 h2 h3
 ·exact oin_2 ty bits imag text names parts hook na pa nl nc pl pc w h0 h1 h2 h3
 ·exact oin_3 ty bits imag text names parts hook na pa nl nc pl pc w h0 h1 h2 h3
 ·exact oin_4 ty bits imag text names parts hook na pa nl nc pl pc w h0 h1 h2 h3
 ·exact oin_5 ty bits imag text names parts hook na pa nl nc pl pc w h0 h1 h2 h3
 ·exact oin_6 ty bits imag text names parts hook na pa nl nc pl pc w h0 h1 h2 h3
 ·exact oin_7 ty bits imag text names parts hook na pa nl nc pl pc w h0 h1 h2 h3
 ·exact oin_8 ty bits imag text names parts hook na pa nl nc pl pc w h0 h1 h2 h3
 ·exact oin_9 ty bits imag text names parts hook na pa nl nc pl pc w h0 h1 h2 h3
 ·exact oin_10 ty bits imag text names parts hook na pa nl nc pl pc w h0 h1 h2 h3
 ·exact oin_11 ty bits imag text names parts hook na pa nl nc pl pc w h0 h1 h2 h3
 ·exact oin_12 ty bits imag text names parts hook na pa nl nc pl pc w h0 h1 h2 h3
 ·exact oin_13 ty bits imag text names parts hook na pa nl nc pl pc w h0 h1 h2 h3
 ·exact oin_14 ty bits imag text names parts hook na pa nl nc pl pc w h0 h1 h2 h3
 ·exact oin_15 ty bits imag text names parts hook na pa nl nc pl pc w h0 h1 h2 h3
 ·exact oin_16 ty bits imag text names parts hook na pa nl nc pl pc w h0 h1 h2 h3
 ·exact oin_17 ty bits imag text names parts hook na pa nl nc pl pc w h0 h1 h2 h3
end Go.Proofs.YtlgieoabellbmaaGreatDoor
