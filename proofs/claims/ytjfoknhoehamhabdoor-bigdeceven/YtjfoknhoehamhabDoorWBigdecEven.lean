/- The walk of the law BigdecEven. -/
import Derived.Test.YtjfoknhoehamhabDoorBEven
namespace Go.Proofs.YtjfoknhoehamhabDoor
open Go.RowKit
set_option linter.unusedVariables false
set_option linter.unusedSimpArgs false

theorem conv_one (w : World) (x : Int) :
    (convert 39 9 (.slice (some ⟨w.heap.size, 0, none⟩) 1 1)).run Tryd.prog (w.alloc (.cells #[.int .u8 x] 5)) = .ok (.string (strOfNums [x])) (w.alloc (.cells #[.int .u8 x] 5)) := by
  have := run_convert_bytes_arg (P := Tryd.prog) (w.alloc (.cells #[.int .u8 x] 5)) 39 5 Tryd.underlying39 Tryd.underlying5 w.heap.size 0 1 1 [x] rfl (fun i hi => by
    obtain rfl : i = 0 := by omega
    simp) 9 Tryd.underlying9
  exact this
theorem app_one (d : Nat) (hd : d < 10) (ds : List UInt8) : strOfNums [48 + (d : Int)] ++ (⟨ds.toArray⟩ : ByteArray) = ⟨(db d :: ds).toArray⟩ := by
  have e : strOfNums [48 + (d : Int)] = ⟨#[db d]⟩ := by
    show (⟨#[UInt8.ofNat (48 + (d : Int)).toNat]⟩ : ByteArray) = _
    rw [show (48 + (d : Int)).toNat = 48 + d by omega]; rfl
  rw [e]
  apply ByteArray.ext
  rw [ByteArray.data_append]
  simp
set_option maxRecDepth 1000000 in
set_option maxHeartbeats 3200000 in
theorem even_walk (m : Nat) (p pp : Int) (w : World) (hm : m < 4294967296) (hpp : max (-1000) (min p 1000) = pp) (hp0 : -1000 ≤ pp) (hp1 : pp ≤ 1000) :
    Calls Tryd.prog 6 #[.int .u32 (m : Int), .int .i64 p] w fun x w' => x = .returned (.bool true) ∧ Below w.heap.size w w' := by
  have hL := lives4_any
  have HA : Hid (∀ ds : List UInt8, EvR (10 * m + 5) 0 ds → ds.length ≤ 11 → 0 < ds.length ∧ ∃ (A : ByteArray) (PA : Int), RoundC ⟨ds.toArray⟩ pp ((ds.length : Int) - 1) A PA 0 ∧ (m = 0 → A = ⟨#[]⟩ ∧ PA = 0) ∧ (0 < m → HalfC A PA ⟨ds.toArray⟩ pp (pp - ds.length + 1)) ∧
      (∀ (i : Nat) (hi : i < A.size), (ds.length : Int) - 2 + PA - pp = (i : Int) → 48 ≤ (A[i]'hi).toNat ∧ (A[i]'hi).toNat ≤ 57 ∧ ((A[i]'hi).toNat - 48) % 2 = 0) ∧ -5000 ≤ PA ∧ PA ≤ 5000 ∧ A.size ≤ 2000) := fun ds h hl => even_all h hm hl hp0 hp1
  obtain ⟨X, hX⟩ : ∃ X, 10 * m + 5 = X := ⟨_, rfl⟩
  rw [hX] at HA
  have hXI : (m : Int) * 10 + 5 = (X : Int) := by omega
  have hX2 : X < 100000000000 := by omega
  have HX0 : Hid (EvR X X []) := ⟨by simp [num], rfl, fun h => by omega⟩
  clear hX
  go_enter Tryd.func6, Tryd.ntmps6
  go_wp2
  go_loopg [5, 6] X (fun g xv sv wr => ∃ (q : Nat) (u : ByteArray) (ds : List UInt8), xv = .int .u64 (q : Int) ∧ sv = .string u ∧ q = g ∧ q ≤ X ∧ u.size = ds.length ∧ ds.length ≤ 11 ∧ Below w.heap.size w wr ∧ Hid (u = ⟨ds.toArray⟩) ∧ Hid (EvR X q ds))
  case atStart => exact ⟨X, ⟨#[]⟩, [], rfl, rfl, rfl, Nat.le_refl _, rfl, by simp, Below.refl _ _, rfl, HX0⟩
  case round =>
    obtain ⟨q, u, ds, rfl, rfl, rfl, hqX, hus, hl11, hbl, HU, HE⟩ := hrel
    by_cases hq : 0 < q
    · have hqI : 0 < (q : Int) := by omega
      have hl10 := HE.out.len hq hX2
      have hd : q % 10 < 10 := Nat.mod_lt _ (by decide)
      have HE2 : Hid (EvR X (q / 10) (db (q % 10) :: ds)) := HE.out.step hq
      have HU2 : Hid (strOfNums [48 + ((q % 10 : Nat) : Int)] ++ u = ⟨(db (q % 10) :: ds).toArray⟩) := by
        show _ = _
        rw [HU.out]; exact app_one _ hd ds
      have hm1 : (q : Int) % 10 = ((q % 10 : Nat) : Int) := by omega
      have hm2 : (q : Int) / 10 = ((q / 10 : Nat) : Int) := by omega
      have hqd : q / 10 < q := by omega
      have hsz := hbl.size
      clear HE HU
      generalize q % 10 = d at *
      generalize q / 10 = q2 at *
      have kc := conv_one
      obtain ⟨T, hT⟩ : ∃ T, strOfNums [48 + (d : Int)] = T := ⟨_, rfl⟩
      have hTz : T.size = 1 := by rw [← hT]; rfl
      have kd := fun w => conv_one w (48 + (d : Int))
      rw [hT] at HU2
      simp only [hT] at kd
      have hsum : ¬ 9223372036854775807 < T.size + u.size := by omega
      obtain ⟨u2, hu2⟩ : ∃ u2, T ++ u = u2 := ⟨_, rfl⟩
      rw [hu2] at HU2
      have hz2 : u2.size = (db d :: ds).length := by rw [HU2.out]; simp [ByteArray.size]
      have hlen2 : (db d :: ds).length ≤ 11 := by simp only [List.length_cons]; omega
      clear kc
      generalize db d :: ds = ds2 at *
      go_wp2
      go_roundg q2
      case measure => omega
      case rel => exact ⟨q2, u2, ds2, by go_num, rfl, rfl, by omega, hz2, hlen2, hbl.alloc hsz _, HU2, HE2⟩
    · have hqI : ¬ 0 < (q : Int) := by omega
      obtain ⟨hpos, A, PA, hR, hA0, hH, hdg, hPA0, hPA1, hAs⟩ := HA.out ds (by have := HE.out; rw [show q = 0 by omega] at this; exact this) hl11
      rw [← HU.out] at hR hH
      rw [← hus] at hR hH hdg hpos
      have hus2 : u.size ≤ 11 := by omega
      clear HA HE HU hus hl11
      by_cases h0 : m = 0
      · subst h0
        obtain ⟨rfl, rfl⟩ := hA0 rfl
        clear hA0 hH hdg
        go_wp2_with (first
          | (go_at_call 12; refine (hR _).mono ?_; rintro x w2 ⟨rfl, hb2⟩)
          | (go_at_call 8; refine (hL _).mono ?_; rintro x w3 ⟨rfl, hb3⟩))
        go_ret
        refine ⟨rfl, ?_⟩
        have h2 := bel_call hbl hb2 (Nat.le_refl _)
        exact bel_call (h2.alloc h2.size _) hb3 (Nat.le_refl _)
      · have h0I : ¬ (m : Int) = 0 := by omega
        have hHm := hH (by omega)
        clear hA0 hH
        by_cases hk0 : (u.size : Int) - 2 + PA - pp < 0
        · clear hdg
          go_wp2_with (first
            | (go_at_call 12; refine (hR _).mono ?_; rintro x w2 ⟨rfl, hb2⟩)
            | (go_at_call 14; refine (hHm _).mono ?_; rintro x w3 ⟨rfl, hb3⟩)
            | (go_at_call 8; refine (hL _).mono ?_; rintro x w4 ⟨rfl, hb4⟩))
          go_ret
          refine ⟨rfl, ?_⟩
          have h2 := bel_call hbl hb2 (Nat.le_refl _)
          exact bel_call (bel_call (h2.alloc h2.size _) hb3 (Nat.le_refl _)) hb4 (Nat.le_refl _)
        · obtain ⟨i, hi⟩ : ∃ i : Nat, (u.size : Int) - 2 + PA - pp = (i : Int) := ⟨((u.size : Int) - 2 + PA - pp).toNat, by omega⟩
          by_cases hk1 : i < A.size
          · obtain ⟨x0, x1, x2⟩ := hdg i hk1 hi
            have hiI : (i : Int) < A.size := by omega
            obtain ⟨y, hy⟩ : ∃ y, (A[i]'hk1).toNat = y := ⟨_, rfl⟩
            rw [hy] at x0 x1 x2
            obtain ⟨z, hz⟩ : ∃ z : Nat, (y : Int) - 48 = (z : Int) := ⟨y - 48, by omega⟩
            have hz2 : (z : Int) % 2 = 0 := by omega
            clear hdg x2
            go_wp2_with (first
              | (go_at_call 12; refine (hR _).mono ?_; rintro x w2 ⟨rfl, hb2⟩)
              | (go_at_call 14; refine (hHm _).mono ?_; rintro x w3 ⟨rfl, hb3⟩)
              | (go_at_call 8; refine (hL _).mono ?_; rintro x w4 ⟨rfl, hb4⟩))
            go_ret
            refine ⟨rfl, ?_⟩
            have h2 := bel_call hbl hb2 (Nat.le_refl _)
            exact bel_call (bel_call (h2.alloc h2.size _) hb3 (Nat.le_refl _)) hb4 (Nat.le_refl _)
          · have hiI : ¬ (i : Int) < A.size := by omega
            clear hdg
            go_wp2_with (first
              | (go_at_call 12; refine (hR _).mono ?_; rintro x w2 ⟨rfl, hb2⟩)
              | (go_at_call 14; refine (hHm _).mono ?_; rintro x w3 ⟨rfl, hb3⟩)
              | (go_at_call 8; refine (hL _).mono ?_; rintro x w4 ⟨rfl, hb4⟩))
            go_ret
            refine ⟨rfl, ?_⟩
            have h2 := bel_call hbl hb2 (Nat.le_refl _)
            exact bel_call (bel_call (h2.alloc h2.size _) hb3 (Nat.le_refl _)) hb4 (Nat.le_refl _)
theorem bigdecEven_walk (m0 : Int) (hm0 : (Lit.int .u32 m0).wf = true) (p : Int) (_yp : (Lit.int .i64 p).wf = true) (w : World) :
    Calls Tryd.prog 6 #[.int .u32 m0, .int .i64 p] w fun x w' => x = .returned (.bool true) ∧ Below w.heap.size w w' := by
  obtain ⟨m, rfl, hm⟩ : ∃ m : Nat, m0 = (m : Int) ∧ m < 4294967296 := by
    have := wfu32 m0 hm0
    exact ⟨m0.toNat, by omega, by omega⟩
  exact even_walk m p _ w hm rfl (by omega) (by omega)
end Go.Proofs.YtjfoknhoehamhabDoor
