/- The law FreeApart. -/
import Derived.Test.YtdedhiipamnahaaWFreePlays
namespace Go.Proofs.Ytdedhiipamnahaa
open Go.RowKit Go.Conc
set_option linter.unusedVariables false
set_option linter.unusedSimpArgs false

set_option maxRecDepth 1000000 in
set_option maxHeartbeats 4000000 in
theorem freeApart_walk (w : World) (a : Option Addr) (len cap : Nat) (hlc : len ≤ cap) (hcm : cap ≤ maxLen) (hS : OL w a len) :
    Calls Try.prog 8 #[.slice a len cap] w fun e w' => e = .returned (.bool true) ∧ Below w.heap.size w w' := by
  have hn := fun W => newi_any 8 .nilFunc (.inl rfl) W
  have hc8 : capN 8 = 8 := rfl
  rw [hc8] at hn
  clear hc8
  go_enter Try.func8, Try.ntmps8
  go_wp2_with fail
  refine (hn w).mono ?_
  rintro e W1 ⟨B1, c1, rfl, hB1, hc1, p1, k1⟩
  have b1 : Below w.heap.size w W1 := Ko.below (Below.refl _ _) k1 (by simp) (Nat.le_refl _)
  have l1 := p1.bx.b
  have m1 := p1.cb
  have z1 := k1.size
  go_wp2_with fail
  refine (hn W1).mono ?_
  rintro e W2 ⟨B2, c2, rfl, hB2, hc2, q2, k2⟩
  have b2 : Below w.heap.size w W2 := Ko.below b1 k2 (by simp) (by omega)
  have p2 := p1.keep k2 (by simp) (by simp)
  have l2 := q2.bx.b
  have m2 := q2.cb
  have z2 := k2.size
  go_wp2_with fail
  refine (hn W2).mono ?_
  rintro e W3 ⟨B3, c3, rfl, hB3, hc3, a3, k3⟩
  have b3 : Below w.heap.size w W3 := Ko.below b2 k3 (by simp) (by omega)
  have p3 := p2.keep k3 (by simp) (by simp)
  have q3 := q2.keep k3 (by simp) (by simp)
  have z3 := k3.size
  have nP := p3.ne
  have nQ := q3.ne
  have nA := a3.ne
  have l3 := a3.bx.b
  have m3 := a3.cb
  have hF := few_any W3 a len cap hlc hcm
  clear k1 k2 k3 p1 p2 q2 b1 b2 hn
  go_wp2_with fail
  refine hF.mono ?_
  rintro e W4 ⟨⟨n4, c4, rfl, hn4, hnl⟩, hW4⟩
  subst hW4
  have hO4 := hS.less hnl
  have hn4I : (n4 : Int) ≤ 300 := by omega
  clear hF hS hlc hcm
  generalize W1.heap.size = S1 at *
  generalize W2.heap.size = S2 at *
  generalize hS3 : W4.heap.size = S3 at *
  have l3' : B3 < S3 := l3
  have m3' : c3 < S3 := m3
  go_wp2_with fail
  go_loopg [6, 7, 24] n4 (fun g _ _ iv wr => ∃ (i m mq : Nat) (l lq : List Int), iv = .int .i64 (i : Nat) ∧ i + g = n4 ∧ m ≤ i ∧ mq ≤ i ∧ Sto wr B1 c1 8 (nums l) .nilFunc m ∧ Sto wr B3 c3 8 (nums l) .nilFunc m ∧ Sto wr B2 c2 8 (nums lq) .nilFunc mq ∧ Below w.heap.size w wr ∧ S3 ≤ wr.heap.size)
  case atStart => exact ⟨0, 0, 0, [], [], rfl, by omega, Nat.le_refl _, Nat.le_refl _, p3, a3, q3, b3, by omega⟩
  case round =>
    obtain ⟨i, m, mq, l, lq, rfl, hi, hmi, hmq, pr, ar, qr, br, hBr⟩ := hrel
    by_cases hlti : i < n4
    · have hltI : (i : Int) < n4 := by omega
      rcases hO4 with hO4 | ⟨b, off, rfl, hbk, hOp⟩
      · omega
      obtain ⟨q, T, e1, e2⟩ := hOp i hlti
      have d1 := (br.cell (p := ⟨b, off + i * 2, none⟩) hbk).trans e1
      have d2 := (br.cell (p := ⟨b, off + i * 2 + 1, none⟩) hbk).trans e2
      clear hOp e1 e2
      obtain ⟨W5, hW5⟩ : ∃ W5, W5 = wr.alloc (.cells #[.bool q, .int .i64 T] 30) := ⟨_, rfl⟩
      have k5 : Ko [] wr W5 := by rw [hW5]; exact (Ko.refl _ _).alloc _
      have x5 : Bq W5 wr.heap.size [.bool q, .int .i64 T] := by rw [hW5]; exact Bq.new _ [_, _] _
      have hX5 : wr.heap.size < W5.heap.size := by rw [hW5]; simp
      have p5 := pr.keep k5 (by simp) (by simp)
      have q5 := qr.keep k5 (by simp) (by simp)
      have a5 := ar.keep k5 (by simp) (by simp)
      have b5 : Below w.heap.size w W5 := Ko.below br k5 (by simp) (by omega)
      go_upto_region 8 with fail
      rw [← hW5]
      clear hW5 k5 pr qr ar br d1 d2 p3 q3 a3
      generalize wr.heap.size = X at *
      have y0 : W5.cell? ⟨X, 0, none⟩ = some (.bool q) := x5.c 0 _ rfl
      go_upto_if 30 with fail
      go_cut [6, 24] (fun sv iv wx => sv = .int .i64 (i : Nat) ∧ iv = .int .i64 (i : Nat) ∧ ∃ (m' : Nat) (l' : List Int), m' ≤ i + 1 ∧ Sto wx B1 c1 8 (nums l') .nilFunc m' ∧ Sto wx B3 c3 8 (nums l') .nilFunc m' ∧ Sto wx B2 c2 8 (nums lq) .nilFunc mq ∧ Below w.heap.size w wx ∧ S3 ≤ wx.heap.size)
      case first =>
        cases q with
        | true =>
          go_upto_region 9 with fail
          have kD : Ko [] W5 W5.drew := ⟨rfl, rfl, rfl, Nat.le_refl _, fun _ _ _ => rfl⟩
          have xD := x5.keep kD (by simp)
          have pD := p5.keep kD (by simp) (by simp)
          have qD := q5.keep kD (by simp) (by simp)
          have aD := a5.keep kD (by simp) (by simp)
          have bD : Below w.heap.size w W5.drew := Ko.below b5 kD (by simp) (by omega)
          refine wp_region_held_drew (S := fun w' => w'.cell? ⟨X, 1, none⟩ = some (.int .i64 T)) (by kernel_rfl) (xD.c 1 _ rfl) ?_
          intro hS
          by_cases hroom : l.length < 8
          · skip
            refine wpAnyH_take (i := 0) (v := .pointer (some ⟨B1, 0, none⟩)) rfl (by kernel_rfl) (by kernel_rfl) (by kernel_rfl) (fun _ _ _ h => h) (Or.inl ⟨by rfl, ?_⟩) (by assumption) ?_
            · intro w5 s0
              go_simp
              try decide
            try simp only [Act.put, List.getElem_toArray, List.getElem_cons_zero, List.getElem_cons_succ, List.setIfInBounds_toArray, List.set_cons_zero, List.set_cons_succ]
            refine wpAnyH_take (i := 1) (v := .pointer (some ⟨X, 1, none⟩)) rfl (by kernel_rfl) (by kernel_rfl) (by kernel_rfl) (fun _ _ _ h => h) (Or.inl ⟨by rfl, ?_⟩) (by assumption) ?_
            · intro w5 s0
              go_simp
              try decide
            try simp only [Act.put, List.getElem_toArray, List.getElem_cons_zero, List.getElem_cons_succ, List.setIfInBounds_toArray, List.set_cons_zero, List.set_cons_succ]
            refine wpAnyH_take (i := 2) (v := .int .i64 T) rfl (by kernel_rfl) (by kernel_rfl) (by kernel_rfl) (fun _ _ _ h => h) (Or.inl ⟨by rfl, ?_⟩) (by assumption) ?_
            · intro w5 s0
              go_simp
              try decide
            try simp only [Act.put, List.getElem_toArray, List.getElem_cons_zero, List.getElem_cons_succ, List.setIfInBounds_toArray, List.set_cons_zero, List.set_cons_succ]
            refine wpAnyH_take (i := 4) (v := .pointer (some ⟨B3, 0, none⟩)) rfl (by kernel_rfl) (by kernel_rfl) (by kernel_rfl) (fun _ _ _ h => h) (Or.inl ⟨by rfl, ?_⟩) (by assumption) ?_
            · intro w5 s0
              go_simp
              try decide
            try simp only [Act.put, List.getElem_toArray, List.getElem_cons_zero, List.getElem_cons_succ, List.setIfInBounds_toArray, List.set_cons_zero, List.set_cons_succ]
            refine wpAnyH_take (i := 5) (v := .pointer (some ⟨X, 1, none⟩)) rfl (by kernel_rfl) (by kernel_rfl) (by kernel_rfl) (fun _ _ _ h => h) (Or.inl ⟨by rfl, ?_⟩) (by assumption) ?_
            · intro w5 s0
              go_simp
              try decide
            try simp only [Act.put, List.getElem_toArray, List.getElem_cons_zero, List.getElem_cons_succ, List.setIfInBounds_toArray, List.set_cons_zero, List.set_cons_succ]
            refine wpAnyH_take (i := 6) (v := .int .i64 T) rfl (by kernel_rfl) (by kernel_rfl) (by kernel_rfl) (fun _ _ _ h => h) (Or.inl ⟨by rfl, ?_⟩) (by assumption) ?_
            · intro w5 s0
              go_simp
              try decide
            try simp only [Act.put, List.getElem_toArray, List.getElem_cons_zero, List.getElem_cons_succ, List.setIfInBounds_toArray, List.set_cons_zero, List.set_cons_succ]
            refine wpAnyH_ready (rs := [3]) (by kernel_rfl) (by simp) ?_
            refine AllReadyH.cons rfl (fun K hK => ?_) AllReadyH.nil
            go_simp
            refine (puti_room pD T (by rw [nums_len]; exact hroom)).mono ?_
            rintro e Z1 ⟨rfl, pz1, kz1⟩
            have xz1 := xD.keep kz1 (by simp; omega)
            refine hK.out _ _ (xz1.c 1 _ rfl) (fun _ => ?_)
            try simp only [Act.put, List.getElem_toArray, List.getElem_cons_zero, List.getElem_cons_succ, List.setIfInBounds_toArray, List.set_cons_zero, List.set_cons_succ]
            refine wpAnyH_ready (rs := [7]) (by kernel_rfl) (by simp) ?_
            refine AllReadyH.cons rfl (fun K1 hK1 => ?_) AllReadyH.nil
            go_simp
            refine (puti_room (aD.keep kz1 (by simp; omega) (by simp; omega)) T (by rw [nums_len]; exact hroom)).mono ?_
            rintro e Z2 ⟨rfl, az2, kz2⟩
            have xz2 := xz1.keep kz2 (by simp; omega)
            refine hK1.out _ _ (xz2.c 1 _ rfl) (fun _ => ?_)
            clear hK hK1
            try simp only [Act.put, List.getElem_toArray, List.getElem_cons_zero, List.getElem_cons_succ, List.setIfInBounds_toArray, List.set_cons_zero, List.set_cons_succ]
            refine wpAnyH_take (i := 8) (v := .bool false) rfl (by kernel_rfl) (by kernel_rfl) (by kernel_rfl) (fun _ _ _ h => h) (Or.inl ⟨by rfl, ?_⟩) (by assumption) ?_
            · intro w5 s0
              go_simp
              try decide
            try simp only [Act.put, List.getElem_toArray, List.getElem_cons_zero, List.getElem_cons_succ, List.setIfInBounds_toArray, List.set_cons_zero, List.set_cons_succ]
            refine wpAnyH_done (by kernel_rfl) ?_ _
            have bZ1 : Below w.heap.size w Z1 := Ko.below bD kz1 (by simp; omega) (by simp; omega)
            have hz1 := kz1.size
            have bZ2 : Below w.heap.size w Z2 := Ko.below bZ1 kz2 (by simp; omega) (by simp at hz1; omega)
            have hz2 := kz2.size
            have pZ2 := pz1.keep kz2 (by simp; omega) (by simp; omega)
            have qZ2 := (qD.keep kz1 (by simp; omega) (by simp; omega)).keep kz2 (by simp; omega) (by simp; omega)
            have eN : nums l ++ [Value.int .i64 T] = nums (l ++ [T]) := by simp [nums]
            rw [eN] at pZ2 az2
            go_wp2
            go_meet
            exact ⟨rfl, rfl, m, l ++ [T], by omega, pZ2, az2, qZ2, bZ2, by simp at hz1; omega⟩
          · skip
            refine wpAnyH_take (i := 0) (v := .pointer (some ⟨B1, 0, none⟩)) rfl (by kernel_rfl) (by kernel_rfl) (by kernel_rfl) (fun _ _ _ h => h) (Or.inl ⟨by rfl, ?_⟩) (by assumption) ?_
            · intro w5 s0
              go_simp
              try decide
            try simp only [Act.put, List.getElem_toArray, List.getElem_cons_zero, List.getElem_cons_succ, List.setIfInBounds_toArray, List.set_cons_zero, List.set_cons_succ]
            refine wpAnyH_take (i := 1) (v := .pointer (some ⟨X, 1, none⟩)) rfl (by kernel_rfl) (by kernel_rfl) (by kernel_rfl) (fun _ _ _ h => h) (Or.inl ⟨by rfl, ?_⟩) (by assumption) ?_
            · intro w5 s0
              go_simp
              try decide
            try simp only [Act.put, List.getElem_toArray, List.getElem_cons_zero, List.getElem_cons_succ, List.setIfInBounds_toArray, List.set_cons_zero, List.set_cons_succ]
            refine wpAnyH_take (i := 2) (v := .int .i64 T) rfl (by kernel_rfl) (by kernel_rfl) (by kernel_rfl) (fun _ _ _ h => h) (Or.inl ⟨by rfl, ?_⟩) (by assumption) ?_
            · intro w5 s0
              go_simp
              try decide
            try simp only [Act.put, List.getElem_toArray, List.getElem_cons_zero, List.getElem_cons_succ, List.setIfInBounds_toArray, List.set_cons_zero, List.set_cons_succ]
            refine wpAnyH_take (i := 4) (v := .pointer (some ⟨B3, 0, none⟩)) rfl (by kernel_rfl) (by kernel_rfl) (by kernel_rfl) (fun _ _ _ h => h) (Or.inl ⟨by rfl, ?_⟩) (by assumption) ?_
            · intro w5 s0
              go_simp
              try decide
            try simp only [Act.put, List.getElem_toArray, List.getElem_cons_zero, List.getElem_cons_succ, List.setIfInBounds_toArray, List.set_cons_zero, List.set_cons_succ]
            refine wpAnyH_take (i := 5) (v := .pointer (some ⟨X, 1, none⟩)) rfl (by kernel_rfl) (by kernel_rfl) (by kernel_rfl) (fun _ _ _ h => h) (Or.inl ⟨by rfl, ?_⟩) (by assumption) ?_
            · intro w5 s0
              go_simp
              try decide
            try simp only [Act.put, List.getElem_toArray, List.getElem_cons_zero, List.getElem_cons_succ, List.setIfInBounds_toArray, List.set_cons_zero, List.set_cons_succ]
            refine wpAnyH_take (i := 6) (v := .int .i64 T) rfl (by kernel_rfl) (by kernel_rfl) (by kernel_rfl) (fun _ _ _ h => h) (Or.inl ⟨by rfl, ?_⟩) (by assumption) ?_
            · intro w5 s0
              go_simp
              try decide
            try simp only [Act.put, List.getElem_toArray, List.getElem_cons_zero, List.getElem_cons_succ, List.setIfInBounds_toArray, List.set_cons_zero, List.set_cons_succ]
            refine wpAnyH_ready (rs := [3]) (by kernel_rfl) (by simp) ?_
            refine AllReadyH.cons rfl (fun K hK => ?_) AllReadyH.nil
            go_simp
            refine (puti_full pD T (by rw [nums_len]; omega)).mono ?_
            rintro e Z1 ⟨rfl, hZ1⟩
            subst hZ1
            refine hK.out _ _ (xD.c 1 _ rfl) (fun _ => ?_)
            try simp only [Act.put, List.getElem_toArray, List.getElem_cons_zero, List.getElem_cons_succ, List.setIfInBounds_toArray, List.set_cons_zero, List.set_cons_succ]
            refine wpAnyH_ready (rs := [7]) (by kernel_rfl) (by simp) ?_
            refine AllReadyH.cons rfl (fun K1 hK1 => ?_) AllReadyH.nil
            go_simp
            refine (puti_full aD T (by rw [nums_len]; omega)).mono ?_
            rintro e Z2 ⟨rfl, hZ2⟩
            subst hZ2
            refine hK1.out _ _ (xD.c 1 _ rfl) (fun _ => ?_)
            clear hK hK1
            try simp only [Act.put, List.getElem_toArray, List.getElem_cons_zero, List.getElem_cons_succ, List.setIfInBounds_toArray, List.set_cons_zero, List.set_cons_succ]
            refine wpAnyH_take (i := 8) (v := .bool false) rfl (by kernel_rfl) (by kernel_rfl) (by kernel_rfl) (fun _ _ _ h => h) (Or.inl ⟨by rfl, ?_⟩) (by assumption) ?_
            · intro w5 s0
              go_simp
              try decide
            try simp only [Act.put, List.getElem_toArray, List.getElem_cons_zero, List.getElem_cons_succ, List.setIfInBounds_toArray, List.set_cons_zero, List.set_cons_succ]
            refine wpAnyH_done (by kernel_rfl) ?_ _
            go_wp2
            go_meet
            exact ⟨rfl, rfl, m, l, by omega, pD, aD, qD, bD, by simp; omega⟩
        | false =>
          cases l with
          | nil =>
            go_wp2_with fail
            refine (geti_nil p5 (by omega) (by omega)).mono ?_
            rintro e W6 ⟨rfl, p6, k6⟩
            have a6 := a5.keep k6 (by simp; omega) (by simp; omega)
            have q6 := q5.keep k6 (by simp; omega) (by simp; omega)
            have b6 : Below w.heap.size w W6 := Ko.below b5 k6 (by simp; omega) (by omega)
            have hs6 := k6.size
            go_wp2_with fail
            refine (geti_nil a6 (by omega) (by omega)).mono ?_
            rintro e W7 ⟨rfl, a7, k7⟩
            have p7 := p6.keep k7 (by simp; omega) (by simp; omega)
            have q7 := q6.keep k7 (by simp; omega) (by simp; omega)
            have b7 : Below w.heap.size w W7 := Ko.below b6 k7 (by simp; omega) (by omega)
            have hs7 := k7.size
            go_wp2
            go_meet
            exact ⟨rfl, rfl, m + 1, [], by omega, p7, a7, q7, b7, by omega⟩
          | cons x l =>
            go_wp2_with fail
            refine (geti_some x p5).mono ?_
            rintro e W6 ⟨rfl, p6, k6⟩
            have a6 := a5.keep k6 (by simp; omega) (by simp; omega)
            have q6 := q5.keep k6 (by simp; omega) (by simp; omega)
            have b6 : Below w.heap.size w W6 := Ko.below b5 k6 (by simp; omega) (by omega)
            have hs6 := k6.size
            go_wp2_with fail
            refine (geti_some x a6).mono ?_
            rintro e W7 ⟨rfl, a7, k7⟩
            have p7 := p6.keep k7 (by simp; omega) (by simp; omega)
            have q7 := q6.keep k7 (by simp; omega) (by simp; omega)
            have b7 : Below w.heap.size w W7 := Ko.below b6 k7 (by simp; omega) (by omega)
            have hs7 := k7.size
            go_wp2
            go_meet
            exact ⟨rfl, rfl, m, l, by omega, p7, a7, q7, b7, by omega⟩
      case rest =>
      obtain ⟨rfl, rfl, m', l', hm', pc, ac, qc, bc, hBc⟩ := hcut
      clear p5 q5 a5 b5 x5 y0 l
      have hPut : Calls Try.prog 13 #[.pointer (some ⟨B2, 0, none⟩), .int .i64 (i : Nat)] wc fun e w' => ∃ v : Value, e = .returned v ∧ ∃ (mq' : Nat) (lq' : List Int), mq' ≤ i + 1 ∧ Sto w' B2 c2 8 (nums lq') .nilFunc mq' ∧ Ko [B2, c2] wc w' := by
        by_cases hroom : lq.length < 8
        · refine (puti_room qc (i : Nat) (by rw [nums_len]; exact hroom)).mono ?_
          rintro e w' ⟨rfl, s', k'⟩
          exact ⟨_, rfl, mq, lq ++ [(i : Int)], by omega, (by simpa [nums] using s'), k'.mono (fun k _ h => List.mem_cons_of_mem _ h)⟩
        · refine (puti_full qc (i : Nat) (by rw [nums_len]; omega)).mono ?_
          rintro e w' ⟨rfl, rfl⟩
          exact ⟨_, rfl, mq, lq, by omega, qc, Ko.refl _ _⟩
      have hGet : Calls Try.prog 15 #[.pointer (some ⟨B2, 0, none⟩)] wc fun e w' => ∃ v : Value, e = .returned v ∧ ∃ (mq' : Nat) (lq' : List Int), mq' ≤ i + 1 ∧ Sto w' B2 c2 8 (nums lq') .nilFunc mq' ∧ Ko [B2, c2] wc w' := by
        cases lq with
        | nil =>
          refine (geti_nil qc (by omega) (by omega)).mono ?_
          rintro e w' ⟨rfl, s', k'⟩
          exact ⟨_, rfl, mq + 1, [], by omega, s', k'.mono (fun k _ h => by simp at h ⊢; exact .inl h)⟩
        | cons x lq =>
          refine (geti_some x qc).mono ?_
          rintro e w' ⟨rfl, s', k'⟩
          exact ⟨_, rfl, mq, lq, by omega, s', k'.mono (fun k _ h => List.mem_cons_of_mem _ h)⟩
      have hfin : ∀ w' : World, Ko [B2, c2] wc w' → Sto w' B1 c1 8 (nums l') .nilFunc m' ∧ Sto w' B3 c3 8 (nums l') .nilFunc m' ∧ Below w.heap.size w w' ∧ S3 ≤ w'.heap.size := fun w' k' =>
        ⟨pc.keep k' (by simp; omega) (by simp; omega), ac.keep k' (by simp; omega) (by simp; omega), Ko.below bc k' (by simp; omega) (by omega), by have := k'.size; omega⟩
      go_upto_if 47 with fail
      go_cut [24] (fun iv wx => iv = .int .i64 (i : Nat) ∧ ∃ (mq' : Nat) (lq' : List Int), mq' ≤ i + 1 ∧ Sto wx B2 c2 8 (nums lq') .nilFunc mq' ∧ Ko [B2, c2] wc wx)
      case first =>
        go_wp2_with (first
          | (go_at_call 13; refine hPut.mono ?_; rintro e w9 ⟨v9, rfl, m9, l9, h9, s9, k9⟩)
          | (go_at_call 15; refine hGet.mono ?_; rintro e w9 ⟨v9, rfl, m9, l9, h9, s9, k9⟩))
        all_goals go_meet
        all_goals first
          | exact ⟨rfl, m9, l9, h9, s9, k9⟩
          | exact ⟨rfl, mq, lq, by omega, qc, Ko.refl _ _⟩
      case rest =>
      obtain ⟨rfl, mq', lq', hq', sq', kq'⟩ := hcut
      obtain ⟨p9, a9, b9, z9⟩ := hfin _ kq'
      clear hPut hGet hfin kq' pc ac qc bc
      have hL1 := leni_any p9
      have hL3 := leni_any a9
      have hM1 := madei_any p9
      have hM3 := madei_any a9
      rw [nums_len] at hL1 hL3
      go_wp2_with (first
        | (go_at_call_of 17 B1; refine hL1.mono ?_; rintro e w9 ⟨rfl, rfl⟩)
        | (go_at_call_of 17 B3; refine hL3.mono ?_; rintro e w9 ⟨rfl, rfl⟩)
        | (go_at_call_of 18 B1; refine hM1.mono ?_; rintro e w9 ⟨rfl, rfl⟩)
        | (go_at_call_of 18 B3; refine hM3.mono ?_; rintro e w9 ⟨rfl, rfl⟩))
      go_roundg (gk - 1)
      case measure => omega
      case rel => exact ⟨i + 1, m', mq', l', lq', by go_num, by omega, hm', hq', p9, a9, sq', b9, z9⟩
    · have hltI : ¬ (i : Int) < n4 := by omega
      have hlv := lives13_any wr
      have fin : ∀ w9, Below wr.heap.size wr w9 → Below w.heap.size w w9 := fun w9 h9 => br.trans (h9.mono (by omega))
      go_wp2_with (go_at_call 19; refine hlv.mono ?_; rintro e w9 ⟨rfl, hb9⟩)
      go_ret
      exact ⟨rfl, fin _ hb9⟩
end Go.Proofs.Ytdedhiipamnahaa
