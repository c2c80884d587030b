/- The law FreePlays. -/
import Derived.Test.YtdedhiipamnahaaYRef
import Derived.Deep.RegionHeld
namespace Go.Proofs.Ytdedhiipamnahaa
open Go.RowKit Go.Conc
set_option linter.unusedVariables false
set_option linter.unusedSimpArgs false

theorem few_any (w : World) (a : Option Addr) (len cap : Nat) (hlc : len ≤ cap) (hcm : cap ≤ maxLen) : Calls Try.prog 12 #[.slice a len cap] w fun e w' => (∃ n c, e = .returned (.slice a n c) ∧ n ≤ 300 ∧ n ≤ len) ∧ w' = w := by
  have hm : maxLen = 9223372036854775807 := rfl
  have hlI : (len : Int) ≤ 9223372036854775807 := by omega
  by_cases h : len ≤ 300
  · have hI : (len : Int) ≤ 300 := by omega
    go_enter Try.func12, Try.ntmps12
    go_wp2
    go_ret
    exact ⟨⟨_, _, rfl, h, Nat.le_refl _⟩, rfl⟩
  · have hI : (300 : Int) < len := by omega
    go_enter Try.func12, Try.ntmps12
    go_wp2
    go_ret
    exact ⟨⟨_, _, rfl, Nat.le_refl _, by omega⟩, rfl⟩

set_option maxRecDepth 1000000 in
set_option maxHeartbeats 4000000 in
theorem freePlays_walk (w : World) (n : Int) (hn : (Lit.int .i64 n).wf = true) (a : Option Addr) (len cap : Nat) (hlc : len ≤ cap) (hcm : cap ≤ maxLen) (hS : OL w a len) :
    Calls Try.prog 3 #[.int .i64 n, .slice a len cap] w fun e w' => e = .returned (.bool true) ∧ Below w.heap.size w w' := by
  clear hn
  obtain ⟨W1, hW1⟩ : ∃ W1, W1 = w.alloc (.cells #[.int .i64 0] 3) := ⟨_, rfl⟩
  have hb : Bq W1 w.heap.size [.int .i64 0] := by rw [hW1]; exact Bq.new _ _ _
  have b1 : Below w.heap.size w W1 := by rw [hW1]; exact (Below.refl _ _).alloc (Nat.le_refl _) _
  have hs1 : w.heap.size < W1.heap.size := by rw [hW1]; simp
  have hmf : ∀ (fn : Fn) (first cap : Array Value) (w : World), (Instr.makeFunc fn first cap).run Try.prog w = .ok (.func fn first cap) w := fun _ _ _ _ => rfl
  have h1 := newi_any n (.func (.func 10) #[] #[.pointer (some ⟨w.heap.size, 0, none⟩)]) (.inr ⟨_, _, _, rfl⟩) W1
  have h2 := fun W => rfNew_any n W
  have hK2 := capN_le n
  generalize capN n = K at *
  go_enter Try.func3, Try.ntmps3
  go_upto_region 2 with fail
  rw [← hW1]
  clear hW1
  go_wp2_with fail
  refine h1.mono ?_
  rintro e W2 ⟨B, c, rfl, hB, hc, s2, k2⟩
  have q2 := hb.keep k2 (by simp)
  have hNB : w.heap.size ≠ B := by omega
  have hNc : w.heap.size ≠ c := by omega
  have b2 : Below w.heap.size w W2 := Ko.below b1 k2 (by simp) (Nat.le_of_lt hs1)
  have hs2 := k2.size
  clear h1 k2 hb b1
  go_wp2_with fail
  refine (h2 W2).mono ?_
  rintro e W3 ⟨rfl, hW3⟩
  have rb : Bq W3 W2.heap.size [.int .i64 K, .int .i64 0, .slice none 0 0] := by rw [hW3]; exact Bq.new _ [_, _, _] _
  have k3 : Ko [] W2 W3 := by rw [hW3]; exact (Ko.refl _ _).alloc _
  have s3 := s2.keep k3 (by simp) (by simp)
  have q3 := q2.keep k3 (by simp)
  have b3 : Below w.heap.size w W3 := Ko.below b2 k3 (by simp) (by omega)
  have hs3 := k3.size
  have hlt : W2.heap.size < W3.heap.size := rb.b
  have r3 : Rf W3 W3.heap.size W2.heap.size K 0 [] := ⟨⟨none, 0, rb, World.ownsRow_nil _ _ _ _⟩, hlt⟩
  have hBl := s2.bx.b
  have hcl := s2.cb
  have hF := few_any W3 a len cap hlc hcm
  clear hW3 h2 rb k3 s2 q2 b2
  generalize hBd : W3.heap.size = Bd at *
  generalize W2.heap.size = R at *
  go_wp2_with fail
  refine hF.mono ?_
  rintro e W4 ⟨⟨n4, c4, rfl, hn4, hnl⟩, hW4⟩
  subst hW4
  have hO4 := hS.less hnl
  have hn4I : (n4 : Int) ≤ 300 := by omega
  clear hF hS hlc hcm
  go_wp2_with fail
  go_loopg [9, 10, 11, 12, 23] n4 (fun g _ _ _ _ iv wr => ∃ (i m : Nat) (l : List Int), iv = .int .i64 (i : Nat) ∧ i + g = n4 ∧ m ≤ i ∧ l.length ≤ K ∧ Sto wr B c K (nums l) (.func (.func 10) #[] #[.pointer (some ⟨w.heap.size, 0, none⟩)]) m ∧ Bq wr w.heap.size [.int .i64 m] ∧ Rf wr Bd R K m l ∧ Below w.heap.size w wr ∧ Bd ≤ wr.heap.size)
  case atStart => exact ⟨0, 0, [], rfl, by omega, Nat.le_refl _, Nat.zero_le _, s3, q3, r3, b3, by omega⟩
  case round =>
    obtain ⟨i, m, l, rfl, hi, hmi, hlK, sr, qr, rr, br, hBr⟩ := hrel
    by_cases hlti : i < n4
    · have hltI : (i : Int) < n4 := by omega
      rcases hO4 with hO4 | ⟨b, off, rfl, hbk, hOp⟩
      · omega
      obtain ⟨q, T, e1, e2⟩ := hOp i hlti
      have d1 := (br.cell (p := ⟨b, off + i * 2, none⟩) hbk).trans e1
      have d2 := (br.cell (p := ⟨b, off + i * 2 + 1, none⟩) hbk).trans e2
      clear hOp e1 e2
      obtain ⟨W5, hW5⟩ : ∃ W5, W5 = wr.alloc (.cells #[.bool q, .int .i64 T] 30) := ⟨_, rfl⟩
      have k5 : Ko [] wr W5 := by rw [hW5]; exact (Ko.refl _ _).alloc _
      have x5 : W5.heap[wr.heap.size]? = some (.cells #[.bool q, .int .i64 T] 30) := by rw [hW5]; exact heap_alloc_new _ _
      have hX5 : wr.heap.size < W5.heap.size := by rw [hW5]; simp
      have s5 := sr.keep k5 (by simp) (by simp)
      have q5 := qr.keep k5 (by simp)
      have r5 := rr.keep k5 (by simp) (by simp)
      have b5 : Below w.heap.size w W5 := Ko.below br k5 (by simp) (by omega)
      go_upto_region 9 with fail
      rw [← hW5]
      clear hW5 k5 sr qr rr br d1 d2
      generalize wr.heap.size = X at *
      have y0 : W5.cell? ⟨X, 0, none⟩ = some (.bool q) := by simp [World.cell?, x5]
      go_upto_if 28 with fail
      go_cut [10, 11, 12, 23] (fun _ _ _ iv wx => iv = .int .i64 (i : Nat) ∧ ∃ (m' : Nat) (l' : List Int), m' ≤ i + 1 ∧ l'.length ≤ K ∧ Sto wx B c K (nums l') (.func (.func 10) #[] #[.pointer (some ⟨w.heap.size, 0, none⟩)]) m' ∧ Bq wx w.heap.size [.int .i64 m'] ∧ Rf wx Bd R K m' l' ∧ Below w.heap.size w wx ∧ Bd ≤ wx.heap.size)
      case first =>
        cases q with
        | true =>
          go_upto_region 10 with fail
          have cellX : ∀ V : World, V.heap[X]? = some (.cells #[.bool true, .int .i64 T] 30) → V.cell? ⟨X, 1, none⟩ = some (.int .i64 T) := fun V h => by simp [World.cell?, h]
          have xD : W5.drew.heap[X]? = some (.cells #[.bool true, .int .i64 T] 30) := x5
          have kD : Ko [] W5 W5.drew := ⟨rfl, rfl, rfl, Nat.le_refl _, fun _ _ _ => rfl⟩
          have sD := s5.keep kD (by simp) (by simp)
          have qD := q5.keep kD (by simp)
          have rD := r5.keep kD (by simp) (by simp)
          have bD : Below w.heap.size w W5.drew := Ko.below b5 kD (by simp) (by omega)
          refine wp_region_held_drew (S := fun w' => w'.cell? ⟨X, 1, none⟩ = some (.int .i64 T)) (by kernel_rfl) (cellX _ xD) ?_
          intro hS
          by_cases hroom : l.length < K
          · skip
            refine wpAnyH_take (i := 0) (v := .pointer (some ⟨B, 0, none⟩)) rfl (by kernel_rfl) (by kernel_rfl) (by kernel_rfl) (fun _ _ _ h => h) (Or.inl ⟨by rfl, ?_⟩) (by assumption) ?_
            · intro w5 s0
              go_simp
              try decide
            try simp only [Act.put, List.getElem_toArray, List.getElem_cons_zero, List.getElem_cons_succ, List.setIfInBounds_toArray, List.set_cons_zero, List.set_cons_succ]
            refine wpAnyH_take (i := 1) (v := .pointer (some ⟨X, 1, none⟩)) rfl (by kernel_rfl) (by kernel_rfl) (by kernel_rfl) (fun _ _ _ h => h) (Or.inl ⟨by rfl, ?_⟩) (by assumption) ?_
            · intro w5 s0
              go_simp
              try decide
            try simp only [Act.put, List.getElem_toArray, List.getElem_cons_zero, List.getElem_cons_succ, List.setIfInBounds_toArray, List.set_cons_zero, List.set_cons_succ]
            refine wpAnyH_take (i := 2) (v := .int .i64 T) rfl (by kernel_rfl) (by kernel_rfl) (by kernel_rfl) (fun _ _ _ h => h) (Or.inl ⟨by rfl, ?_⟩) (by assumption) ?_
            · intro w5 s0
              go_simp
              try decide
            try simp only [Act.put, List.getElem_toArray, List.getElem_cons_zero, List.getElem_cons_succ, List.setIfInBounds_toArray, List.set_cons_zero, List.set_cons_succ]
            refine wpAnyH_take (i := 4) (v := .pointer (some ⟨R, 0, none⟩)) rfl (by kernel_rfl) (by kernel_rfl) (by kernel_rfl) (fun _ _ _ h => h) (Or.inl ⟨by rfl, ?_⟩) (by assumption) ?_
            · intro w5 s0
              go_simp
              try decide
            try simp only [Act.put, List.getElem_toArray, List.getElem_cons_zero, List.getElem_cons_succ, List.setIfInBounds_toArray, List.set_cons_zero, List.set_cons_succ]
            refine wpAnyH_take (i := 5) (v := .pointer (some ⟨X, 1, none⟩)) rfl (by kernel_rfl) (by kernel_rfl) (by kernel_rfl) (fun _ _ _ h => h) (Or.inl ⟨by rfl, ?_⟩) (by assumption) ?_
            · intro w5 s0
              go_simp
              try decide
            try simp only [Act.put, List.getElem_toArray, List.getElem_cons_zero, List.getElem_cons_succ, List.setIfInBounds_toArray, List.set_cons_zero, List.set_cons_succ]
            refine wpAnyH_take (i := 6) (v := .int .i64 T) rfl (by kernel_rfl) (by kernel_rfl) (by kernel_rfl) (fun _ _ _ h => h) (Or.inl ⟨by rfl, ?_⟩) (by assumption) ?_
            · intro w5 s0
              go_simp
              try decide
            try simp only [Act.put, List.getElem_toArray, List.getElem_cons_zero, List.getElem_cons_succ, List.setIfInBounds_toArray, List.set_cons_zero, List.set_cons_succ]
            refine wpAnyH_ready (rs := [3]) (by kernel_rfl) (by simp) ?_
            refine AllReadyH.cons rfl (fun K hK => ?_) AllReadyH.nil
            go_simp
            refine (puti_room sD T (by rw [nums_len]; exact hroom)).mono ?_
            rintro e Z1 ⟨rfl, sz1, kz1⟩
            have xz1 : Z1.heap[X]? = some (.cells #[.bool true, .int .i64 T] 30) := (kz1.block X (by simpa using hX5) (by simp; omega)).trans xD
            refine hK.out _ _ (cellX Z1 xz1) (fun _ => ?_)
            try simp only [Act.put, List.getElem_toArray, List.getElem_cons_zero, List.getElem_cons_succ, List.setIfInBounds_toArray, List.set_cons_zero, List.set_cons_succ]
            refine wpAnyH_ready (rs := [7]) (by kernel_rfl) (by simp) ?_
            refine AllReadyH.cons rfl (fun K1 hK1 => ?_) AllReadyH.nil
            go_simp
            refine (rfPut_room (rD.keep kz1 (by simp; omega) (by simp; omega)) T (by omega) (by omega) (by have := kz1.size; simp at this; omega)).mono ?_
            rintro e Z2 ⟨rfl, rz2, kz2, oz2⟩
            have xz2 : Z2.heap[X]? = some (.cells #[.bool true, .int .i64 T] 30) := (oz2 X _ _ _ xz1 (by decide) (by omega)).trans xz1
            refine hK1.out _ _ (cellX Z2 xz2) (fun _ => ?_)
            clear hK hK1
            try simp only [Act.put, List.getElem_toArray, List.getElem_cons_zero, List.getElem_cons_succ, List.setIfInBounds_toArray, List.set_cons_zero, List.set_cons_succ]
            refine wpAnyH_take (i := 8) (v := .bool false) rfl (by kernel_rfl) (by kernel_rfl) (by kernel_rfl) (fun _ _ _ h => h) (Or.inl ⟨by rfl, ?_⟩) (by assumption) ?_
            · intro w5 s0
              go_simp
              try decide
            try simp only [Act.put, List.getElem_toArray, List.getElem_cons_zero, List.getElem_cons_succ, List.setIfInBounds_toArray, List.set_cons_zero, List.set_cons_succ]
            refine wpAnyH_done (by kernel_rfl) ?_ _
            have bZ1 : Below w.heap.size w Z1 := Ko.below bD kz1 (by simp; omega) (by simp; omega)
            have bZ2 : Below w.heap.size w Z2 := Kd.below bZ1 kz2 (by simp; omega) (by omega)
            have sZ2 := sz1.keepd kz2 (by omega) (by omega) (by simp; omega) (by simp; omega)
            have qZ2 := (qD.keep kz1 (by simp; omega)).keepd kz2 (by omega) (by simp; omega)
            have eN : nums l ++ [Value.int .i64 T] = nums (l ++ [T]) := by simp [nums]
            rw [eN] at sZ2
            go_wp2
            go_meet
            exact ⟨rfl, m, l ++ [T], by omega, by simp; omega, sZ2, qZ2, rz2, bZ2, by have := kz1.size; have := kz2.size; simp at *; omega⟩
          · skip
            refine wpAnyH_take (i := 0) (v := .pointer (some ⟨B, 0, none⟩)) rfl (by kernel_rfl) (by kernel_rfl) (by kernel_rfl) (fun _ _ _ h => h) (Or.inl ⟨by rfl, ?_⟩) (by assumption) ?_
            · intro w5 s0
              go_simp
              try decide
            try simp only [Act.put, List.getElem_toArray, List.getElem_cons_zero, List.getElem_cons_succ, List.setIfInBounds_toArray, List.set_cons_zero, List.set_cons_succ]
            refine wpAnyH_take (i := 1) (v := .pointer (some ⟨X, 1, none⟩)) rfl (by kernel_rfl) (by kernel_rfl) (by kernel_rfl) (fun _ _ _ h => h) (Or.inl ⟨by rfl, ?_⟩) (by assumption) ?_
            · intro w5 s0
              go_simp
              try decide
            try simp only [Act.put, List.getElem_toArray, List.getElem_cons_zero, List.getElem_cons_succ, List.setIfInBounds_toArray, List.set_cons_zero, List.set_cons_succ]
            refine wpAnyH_take (i := 2) (v := .int .i64 T) rfl (by kernel_rfl) (by kernel_rfl) (by kernel_rfl) (fun _ _ _ h => h) (Or.inl ⟨by rfl, ?_⟩) (by assumption) ?_
            · intro w5 s0
              go_simp
              try decide
            try simp only [Act.put, List.getElem_toArray, List.getElem_cons_zero, List.getElem_cons_succ, List.setIfInBounds_toArray, List.set_cons_zero, List.set_cons_succ]
            refine wpAnyH_take (i := 4) (v := .pointer (some ⟨R, 0, none⟩)) rfl (by kernel_rfl) (by kernel_rfl) (by kernel_rfl) (fun _ _ _ h => h) (Or.inl ⟨by rfl, ?_⟩) (by assumption) ?_
            · intro w5 s0
              go_simp
              try decide
            try simp only [Act.put, List.getElem_toArray, List.getElem_cons_zero, List.getElem_cons_succ, List.setIfInBounds_toArray, List.set_cons_zero, List.set_cons_succ]
            refine wpAnyH_take (i := 5) (v := .pointer (some ⟨X, 1, none⟩)) rfl (by kernel_rfl) (by kernel_rfl) (by kernel_rfl) (fun _ _ _ h => h) (Or.inl ⟨by rfl, ?_⟩) (by assumption) ?_
            · intro w5 s0
              go_simp
              try decide
            try simp only [Act.put, List.getElem_toArray, List.getElem_cons_zero, List.getElem_cons_succ, List.setIfInBounds_toArray, List.set_cons_zero, List.set_cons_succ]
            refine wpAnyH_take (i := 6) (v := .int .i64 T) rfl (by kernel_rfl) (by kernel_rfl) (by kernel_rfl) (fun _ _ _ h => h) (Or.inl ⟨by rfl, ?_⟩) (by assumption) ?_
            · intro w5 s0
              go_simp
              try decide
            try simp only [Act.put, List.getElem_toArray, List.getElem_cons_zero, List.getElem_cons_succ, List.setIfInBounds_toArray, List.set_cons_zero, List.set_cons_succ]
            refine wpAnyH_ready (rs := [3]) (by kernel_rfl) (by simp) ?_
            refine AllReadyH.cons rfl (fun K hK => ?_) AllReadyH.nil
            go_simp
            refine (puti_full sD T (by rw [nums_len]; omega)).mono ?_
            rintro e Z1 ⟨rfl, hZ1⟩
            subst hZ1
            refine hK.out _ _ (cellX _ xD) (fun _ => ?_)
            try simp only [Act.put, List.getElem_toArray, List.getElem_cons_zero, List.getElem_cons_succ, List.setIfInBounds_toArray, List.set_cons_zero, List.set_cons_succ]
            refine wpAnyH_ready (rs := [7]) (by kernel_rfl) (by simp) ?_
            refine AllReadyH.cons rfl (fun K1 hK1 => ?_) AllReadyH.nil
            go_simp
            refine (rfPut_full rD T (by omega) (by omega)).mono ?_
            rintro e Z2 ⟨rfl, bz2⟩
            have xz2 : Z2.heap[X]? = some (.cells #[.bool true, .int .i64 T] 30) := (bz2.block X (by simpa using hX5)).trans xD
            refine hK1.out _ _ (cellX Z2 xz2) (fun _ => ?_)
            clear hK hK1
            try simp only [Act.put, List.getElem_toArray, List.getElem_cons_zero, List.getElem_cons_succ, List.setIfInBounds_toArray, List.set_cons_zero, List.set_cons_succ]
            refine wpAnyH_take (i := 8) (v := .bool false) rfl (by kernel_rfl) (by kernel_rfl) (by kernel_rfl) (fun _ _ _ h => h) (Or.inl ⟨by rfl, ?_⟩) (by assumption) ?_
            · intro w5 s0
              go_simp
              try decide
            try simp only [Act.put, List.getElem_toArray, List.getElem_cons_zero, List.getElem_cons_succ, List.setIfInBounds_toArray, List.set_cons_zero, List.set_cons_succ]
            refine wpAnyH_done (by kernel_rfl) ?_ _
            have kz2 : Ko [] W5.drew Z2 := ⟨bz2.os, bz2.tape, bz2.output, bz2.size, fun k hk _ => bz2.block k hk⟩
            have bZ2 : Below w.heap.size w Z2 := Ko.below bD kz2 (by simp) (by simp; omega)
            have sZ2 := sD.keep kz2 (by simp) (by simp)
            have qZ2 := qD.keep kz2 (by simp)
            have rZ2 := rD.keep kz2 (by simp) (by simp)
            go_wp2
            go_meet
            exact ⟨rfl, m, l, by omega, by omega, sZ2, qZ2, rZ2, bZ2, by have := kz2.size; simp at *; omega⟩
        | false =>
          cases l with
          | nil =>
            go_wp2_with fail
            refine (geti_plays1 s5 (by omega) (by omega) q5 hNB (by omega) (by omega)).mono ?_
            rintro e W6 ⟨rfl, s6, q6, k6⟩
            have r6 := r5.keep k6 (by simp; omega) (by simp; omega)
            have b6 : Below w.heap.size w W6 := Ko.below b5 k6 (by simp; omega) (by omega)
            have hs6 := k6.size
            go_wp2_with fail
            refine (rfGet_none r6 (by omega) (by omega)).mono ?_
            rintro e W7 ⟨rfl, r7, k7⟩
            have s7 := s6.keepd k7 (by omega) (by omega) (by simp; omega) (by simp; omega)
            have q7 := q6.keepd k7 (by omega) (by simp; omega)
            have b7 : Below w.heap.size w W7 := Kd.below b6 k7 (by simp; omega) (by omega)
            have hs7 := k7.size
            obtain ⟨a7, c7, y7, -⟩ := r7.ex
            have y71 := y7.c 1 _ rfl
            go_wp2
            go_meet
            exact ⟨rfl, m + 1, [], by omega, Nat.zero_le _, s7, q7, r7, b7, by omega⟩
          | cons x l =>
            go_wp2_with fail
            refine (geti_some x s5).mono ?_
            rintro e W6 ⟨rfl, s6, k6⟩
            have r6 := r5.keep k6 (by simp; omega) (by simp; omega)
            have q6 := q5.keep k6 (by simp; omega)
            have b6 : Below w.heap.size w W6 := Ko.below b5 k6 (by simp; omega) (by omega)
            have hs6 := k6.size
            simp only [List.length_cons] at hlK
            go_wp2_with fail
            refine (rfGet_some r6 (by omega) (by omega)).mono ?_
            rintro e W7 ⟨rfl, r7, k7⟩
            have s7 := s6.keepd k7 (by omega) (by omega) (by simp; omega) (by simp; omega)
            have q7 := q6.keepd k7 (by omega) (by simp; omega)
            have b7 : Below w.heap.size w W7 := Kd.below b6 k7 (by simp; omega) (by omega)
            have hs7 := k7.size
            go_wp2
            go_meet
            exact ⟨rfl, m, l, by omega, by omega, s7, q7, r7, b7, by omega⟩
      case rest =>
      obtain ⟨rfl, m', l', hm', hl', sc, qc, rc, bc, hBc⟩ := hcut
      clear s5 q5 r5 b5 x5 y0
      obtain ⟨ac, cc, yc, -⟩ := rc.ex
      have f1 : ∀ z : Cl wc, z.w.cell? ⟨R, 1, none⟩ = some (.int .i64 (m' : Nat)) := fun z => z.cell (yc.c 1 _ rfl)
      have f2 : ∀ z : Cl wc, z.w.cell? ⟨R, 2, none⟩ = some (.slice ac l'.length cc) := fun z => z.cell (yc.c 2 _ rfl)
      have f3 : ∀ z : Cl wc, z.w.cell? ⟨w.heap.size, 0, none⟩ = some (.int .i64 (m' : Nat)) := fun z => z.cell (qc.c 0 _ rfl)
      have kz : ∀ z : Cl wc, Ko [] wc z.w := fun z => ⟨z.below.os, z.below.tape, z.below.output, z.below.size, fun k hk _ => z.below.block k hk⟩
      have hL : ∀ z : Cl wc, Calls Try.prog 17 #[.pointer (some ⟨B, 0, none⟩)] z.w fun e w' => e = .returned (.int .i64 l'.length) ∧ w' = z.w := fun z => by
        have := leni_any (sc.keep (kz z) (by simp) (by simp))
        rwa [nums_len] at this
      have hM : ∀ z : Cl wc, Calls Try.prog 18 #[.pointer (some ⟨B, 0, none⟩)] z.w fun e w' => e = .returned (.int .i64 (m' : Nat)) ∧ w' = z.w := fun z => madei_any (sc.keep (kz z) (by simp) (by simp))
      go_upto_region 16 with fail
      refine wp_region_above wc (Below.refl _ _) (by kernel_rfl) (by kernel_rfl) ?_
      intro hCl
      repeat (go_big_quiet_step ((first | (go_at_call 17; exact Cl.call_same (hL _)) | (go_at_call 18; exact Cl.call_same (hM _)))))
      refine wpQuiet_nil ?_
      intro _ hw'
      obtain ⟨y, hx⟩ := hw'
      subst hx
      have sy := sc.keep (kz y) (by simp) (by simp)
      have qy := qc.keep (kz y) (by simp)
      have ry := rc.keep (kz y) (by simp) (by simp)
      have by9 : Below w.heap.size w y.w := Ko.below bc (kz y) (by simp) (by omega)
      have hsy := (kz y).size
      clear f1 f2 f3 hL hM
      go_wp2
      go_roundg (gk - 1)
      case measure => omega
      case rel => exact ⟨i + 1, m', l', by go_num, by omega, hm', hl', sy, qy, ry, by9, by omega⟩
    · have hltI : ¬ (i : Int) < n4 := by omega
      have hlv := lives13_any wr
      have fin : ∀ w9, Below wr.heap.size wr w9 → Below w.heap.size w w9 := fun w9 h9 => br.trans (h9.mono (by omega))
      go_wp2_with (go_at_call 19; refine hlv.mono ?_; rintro e w9 ⟨rfl, hb9⟩)
      go_ret
      exact ⟨rfl, fin _ hb9⟩
end Go.Proofs.Ytdedhiipamnahaa
