/- ZList, VVal: these texts in one. -/
import Derived.Test.YtjfmhghpkefihaaGreatDoorPt20
import Derived.Test.YtjfmhghpkefihaaGreatDoorVMade
import Derived.Test.YtjfmhghpkefihaaGreatDoorVBuild
import Derived.OwnWalk
import Derived.WalkSmall
import Derived.Maps.AppendAt
import Derived.Deep.LoopGhost
/- printer: arguments alone. -/
namespace Go.Proofs.YtjfmhghpkefihaaGreatDoor
open Go.RowKit
set_option linter.unusedVariables false
set_option linter.unusedSimpArgs false

/-- What Kind is of the value x of the type t. -/
def KdQ (t : TypeId) (x : Value) (k : Int) : Prop := ∃ (ty : ByteArray) (h : Int), ∀ Z : World, Sem.run Tryz.prog (method 525 t x "Kind") Z = .ok (353, .agg #[.int .i64 k, .string ty, .int .i64 h]) Z
theorem kq_I (h n : Int) : KdQ 141 (.agg #[.int .i64 6, .string ⟨#[]⟩, .int .i64 h, .int .i64 n]) 6 := ⟨⟨#[]⟩, h, fun Z => by kernel_rfl⟩
theorem kq_X (h : Int) (s : ByteArray) : KdQ 151 (.agg #[.int .i64 16, .string ⟨#[]⟩, .int .i64 h, .string s]) 16 := ⟨⟨#[]⟩, h, fun Z => by kernel_rfl⟩
set_option maxRecDepth 1000000 in
set_option maxHeartbeats 2000000 in
theorem parts_any (t1 t2 : TypeId) (x1 x2 : Value) (k1 k2 : Int) (hk1 : KdQ t1 x1 k1) (hk2 : KdQ t2 x2 k2) (w : World) :
    Calls Tryz.prog 17 #[.iface t1 x1, .iface t2 x2] w fun e w' => e = .returned (.bool (k1 != 16 && k2 != 16)) ∧ Below w.heap.size w w' := by
  obtain ⟨y1, h1, hk1⟩ := hk1
  obtain ⟨y2, h2, hk2⟩ := hk2
  by_cases e1 : k1 = 16
  · subst e1
    go_enter Tryz.func17, Tryz.ntmps17
    go_wp2
    go_ret
    exact ⟨by simp, by go_grown⟩
  · have hd1 : decide (k1 = 16) = false := decide_eq_false e1
    go_enter Tryz.func17, Tryz.ntmps17
    go_wp2
    go_ret
    exact ⟨by simp, by go_grown⟩
/-- An argument, its kind and its text. -/
structure It where
  t : TypeId
  x : Value
  k : Int
  T : ByteArray
abbrev It.v (q : It) : Value := .iface q.t q.x
def lsO : Option Int → List It → List UInt8
  | _, [] => []
  | none, q :: r => q.T.data.toList ++ lsO (some q.k) r
  | some k, q :: r => (if k != 16 && q.k != 16 then [32] else []) ++ (q.T.data.toList ++ lsO (some q.k) r)
def prv (its : List It) : Nat → Option Int
  | 0 => none
  | j + 1 => (its[j]?).map (·.k)
theorem En.arg {w : World} {g C M A n c : Nat} {l : List UInt8} {dp : Int} {vs : List Value} {nx : Int} (h : En w g C M l dp (.slice (some ⟨A, 0, none⟩) n c) vs nx) {j : Nat} {u : Value} (hj : vs[j]? = some u) : w.cell? ⟨A, j, none⟩ = some u := by
  obtain ⟨a, c', e, h1, h2, ha⟩ := h.a
  injection e with e1 e2 e3
  obtain ⟨A', rfl, -, hc⟩ := ha j u hj
  injection e1 with e1
  injection e1 with e1
  subst e1
  exact hc
set_option maxRecDepth 1000000 in
set_option maxHeartbeats 2000000 in
theorem list_of (its : List It) (h0 : 0 < its.length) (h16 : its.length ≤ 1000) {w : World} {g C M : Nat} {l : List UInt8} {dp : Int} {av : Value} {nx : Int} (hE : En w g C M l dp av (its.map It.v) nx) (hk : ∀ q ∈ its, KdQ q.t q.x q.k)
    (hsh : ∀ q ∈ its, ∀ W l', En W g C M l' dp av (its.map It.v) nx → Calls Tryz.prog 24 #[.pointer (some ⟨g, 0, none⟩), .iface q.t q.x, SV (bareQ 118)] W fun e w' => e = .returned (.string q.T) ∧ Below W.heap.size W w') (o : List UInt8) (ho : o = l ++ lsO none its) (hl : o.length ≤ 100000) :
    Calls Tryz.prog 16 #[.pointer (some ⟨g, 0, none⟩), .func (.func 17) #[] #[]] w fun e w' => e = .returned (.tuple #[]) ∧ IsPr w' g o (prT C dp av nx) ∧ Kx (fun k => k = g) w w' := by
  obtain ⟨a, c, rfl, hc1, hc2, ha⟩ := hE.a
  obtain ⟨A, rfl, hA, -⟩ := ha 0 its[0].v (by rw [List.getElem?_map, List.getElem?_eq_getElem h0]; rfl)
  rw [List.length_map] at hc1 hE hsh ⊢
  clear ha
  have HO : Hid (o = l ++ lsO none its) := ho
  clear ho
  have hcI : (its.length : Int) ≤ c := by omega
  have h16I : (its.length : Int) ≤ 1000 := by omega
  have q2 : w.cell? ⟨g, 4099, none⟩ = some (.slice (some ⟨A, 0, none⟩) its.length c) := hE.v.p.tl (i := 2) rfl
  go_enter Tryz.func16, Tryz.ntmps16
  go_wp2
  clear q2
  go_loopg [4, 5, 11] its.length (fun gg z4 z5 i wr => ∃ (j : Nat) (l1 : List UInt8), i = .int .i64 j ∧ j + gg = its.length ∧ Kx (fun k => k = g) w wr ∧ En wr g C M l1 dp (.slice (some ⟨A, 0, none⟩) its.length c) (its.map It.v) nx ∧ Hid (o = l1 ++ lsO (prv its j) (its.drop j)))
  case atStart => exact ⟨0, l, rfl, Nat.zero_add _, Kx.refl _ _, hE, HO⟩
  case round =>
    obtain ⟨j, l1, rfl, hjg, kj, Ej, hoo⟩ := hrel
    by_cases hlt : j < its.length
    · have hltI : (j : Int) < its.length := by omega
      obtain ⟨q, hq0⟩ : ∃ q, its[j]? = some q := ⟨its[j], List.getElem?_eq_getElem hlt⟩
      have hqm : q ∈ its := List.mem_of_getElem? hq0
      have hd : its.drop j = q :: its.drop (j + 1) := by
        obtain ⟨h, rfl⟩ := List.getElem?_eq_some_iff.1 hq0
        exact List.drop_eq_getElem_cons h
      have hpv : prv its (j + 1) = some q.k := by show (its[j]?).map _ = _; rw [hq0]; rfl
      have hcl : wr.cell? ⟨A, j, none⟩ = some (.iface q.t q.x) := Ej.arg (by rw [List.getElem?_map, hq0]; rfl)
      have hq := hsh q hqm
      have hkq := hk q hqm
      rw [hd] at hoo
      cases j with
      | zero =>
        have hoo' : Hid (o = (l1 ++ q.T.data.toList) ++ lsO (prv its 1) (its.drop 1)) := by rw [hpv]; have := hoo.out; rw [List.append_assoc]; exact this
        have hsz : l1.length + q.T.data.toList.length ≤ 100000 := by have := congrArg List.length hoo'.out; rw [List.length_append, List.length_append] at this; omega
        clear hoo hd hpv hq0 hqm hsh hk hkq
        go_wp2
        obtain ⟨Yd, hYd⟩ : ∃ Yd, Yd = wr.drew := ⟨_, rfl⟩
        have bY : Below wr.heap.size wr Yd := by rw [hYd]; exact (Below.refl _ _).drew
        have EY := Ej.up bY
        have kY := kj.trans (Kx.of_below bY)
        have hB := byV_any Yd
        refine wp_region_held_drew (S := fun _ : World => True) (by kernel_rfl) trivial ?_
        rw [← hYd]
        clear hYd
        intro hS
        refine wpAnyH_take (i := 0) (v := .pointer (some ⟨g, 0, none⟩)) rfl (by kernel_rfl) (by kernel_rfl) (by kernel_rfl) (fun _ _ _ h => h) (Or.inl ⟨by rfl, ?_⟩) (by assumption) ?_
        · intro w5 s0
          go_simp
        try simp only [Act.put, List.getElem_toArray, List.getElem_cons_zero, List.getElem_cons_succ, List.setIfInBounds_toArray, List.set_cons_zero, List.set_cons_succ]
        refine wpAnyH_take (i := 1) (v := .pointer (some ⟨g, 0, none⟩)) rfl (by kernel_rfl) (by kernel_rfl) (by kernel_rfl) (fun _ _ _ h => h) (Or.inl ⟨by rfl, ?_⟩) (by assumption) ?_
        · intro w5 s0
          go_simp
        try simp only [Act.put, List.getElem_toArray, List.getElem_cons_zero, List.getElem_cons_succ, List.setIfInBounds_toArray, List.set_cons_zero, List.set_cons_succ]
        refine wpAnyH_take (i := 2) (v := .pointer (some ⟨g, 0, none⟩)) rfl (by kernel_rfl) (by kernel_rfl) (by kernel_rfl) (fun _ _ _ h => h) (Or.inl ⟨by rfl, ?_⟩) (by assumption) ?_
        · intro w5 s0
          go_simp
        try simp only [Act.put, List.getElem_toArray, List.getElem_cons_zero, List.getElem_cons_succ, List.setIfInBounds_toArray, List.set_cons_zero, List.set_cons_succ]
        refine wpAnyH_take (i := 3) (v := .pointer (some ⟨g, 0, none⟩)) rfl (by kernel_rfl) (by kernel_rfl) (by kernel_rfl) (fun _ _ _ h => h) (Or.inl ⟨by rfl, ?_⟩) (by assumption) ?_
        · intro w5 s0
          go_simp
        try simp only [Act.put, List.getElem_toArray, List.getElem_cons_zero, List.getElem_cons_succ, List.setIfInBounds_toArray, List.set_cons_zero, List.set_cons_succ]
        refine wpAnyH_take (i := 4) (v := .iface q.t q.x) rfl (by kernel_rfl) (by kernel_rfl) (by kernel_rfl) (fun _ _ _ h => h) (Or.inl ⟨by rfl, ?_⟩) (by assumption) ?_
        · intro w5 s0
          go_simp
        try simp only [Act.put, List.getElem_toArray, List.getElem_cons_zero, List.getElem_cons_succ, List.setIfInBounds_toArray, List.set_cons_zero, List.set_cons_succ]
        refine wpAnyH_ready (rs := [5]) (by kernel_rfl) (by simp) ?_
        refine AllReadyH.cons rfl (fun K5 hK5 => ?_) AllReadyH.nil
        go_simp
        refine hB.mono ?_
        rintro e W5 ⟨rfl, b5⟩
        refine hK5.out _ _ trivial (fun _ => ?_)
        clear hK5
        try simp only [Act.put, List.getElem_toArray, List.getElem_cons_zero, List.getElem_cons_succ, List.setIfInBounds_toArray, List.set_cons_zero, List.set_cons_succ]
        have E5 := EY.up b5
        have k5 := kY.trans (Kx.of_below b5)
        have hs5 := hq W5 _ E5
        refine wpAnyH_ready (rs := [6]) (by kernel_rfl) (by simp) ?_
        refine AllReadyH.cons rfl (fun K6 hK6 => ?_) AllReadyH.nil
        go_simp
        refine hs5.mono ?_
        rintro e W6 ⟨rfl, b6⟩
        refine hK6.out _ _ trivial (fun _ => ?_)
        clear hK6
        try simp only [Act.put, List.getElem_toArray, List.getElem_cons_zero, List.getElem_cons_succ, List.setIfInBounds_toArray, List.set_cons_zero, List.set_cons_succ]
        have E6 := E5.up b6
        have k6 := k5.trans (Kx.of_below b6)
        refine wpAnyH_ready (rs := [7]) (by kernel_rfl) (by simp) ?_
        refine AllReadyH.cons rfl (fun K7 hK7 => ?_) AllReadyH.nil
        go_simp
        refine (put_any g _ _ q.T W6 E6.v.p (by rw [Lib.size_eq]; omega)).mono ?_
        rintro e W7 ⟨rfl, p7, k7⟩
        refine hK7.out _ _ trivial (fun _ => ?_)
        clear hK7
        try simp only [Act.put, List.getElem_toArray, List.getElem_cons_zero, List.getElem_cons_succ, List.setIfInBounds_toArray, List.set_cons_zero, List.set_cons_succ]
        refine wpAnyH_done (by kernel_rfl) ?_ _
        have E7 := E6.kept k7 p7
        have kk := k6.trans k7
        clear E6 k6 p7 k7 E5 k5 EY kY hs5
        go_wp2
        go_roundg (gk - 1)
        case measure => omega
        case rel => exact ⟨1, l1 ++ q.T.data.toList, by go_num, by omega, kk, E7, hoo'⟩
      | succ i =>
        obtain ⟨q0, hq1⟩ : ∃ q, its[i]? = some q := ⟨its[i], List.getElem?_eq_getElem (by omega)⟩
        have hpv0 : prv its (i + 1) = some q0.k := by show (its[i]?).map _ = _; rw [hq1]; rfl
        have hcl0 : wr.cell? ⟨A, i, none⟩ = some (.iface q0.t q0.x) := Ej.arg (by rw [List.getElem?_map, hq1]; rfl)
        have q3 : wr.cell? ⟨g, 4099, none⟩ = some (.slice (some ⟨A, 0, none⟩) its.length c) := Ej.v.p.tl (i := 2) rfl
        have hP := parts_any q0.t q.t q0.x q.x q0.k q.k (hk q0 (List.mem_of_getElem? hq1)) hkq wr
        rw [hpv0] at hoo
        have hii : ¬ (i : Int) + 1 ≤ 0 := by omega
        have hii2 : (0 : Int) < (i : Int) + 1 := by omega
        have hil : (i : Int) + 1 < its.length := by omega
        have hil2 : (i : Int) < its.length := by omega
        rcases hb : (q0.k != 16 && q.k != 16) with _ | _
        · have hoo' : Hid (o = (l1 ++ q.T.data.toList) ++ lsO (prv its (i + 1 + 1)) (its.drop (i + 1 + 1))) := by
            rw [hpv]; have := hoo.out; unfold lsO at this; rw [hb] at this; rw [List.append_assoc]; exact this
          have hsz : l1.length + q.T.data.toList.length ≤ 100000 := by have := congrArg List.length hoo'.out; rw [List.length_append, List.length_append] at this; omega
          rw [hb] at hP
          clear hoo hd hpv hq0 hqm hsh hk hkq hq1 hpv0 hb
          go_upto_region 5 with (go_at_call 17; refine hP.mono ?_; rintro e W3 ⟨rfl, b3⟩)
          have E3 := Ej.up b3
          have k3 := kj.trans (Kx.of_below b3)
          obtain ⟨Yd, hYd⟩ : ∃ Yd, Yd = W3.drew := ⟨_, rfl⟩
          have bY : Below W3.heap.size W3 Yd := by rw [hYd]; exact (Below.refl _ _).drew
          have EY := E3.up bY
          have kY := k3.trans (Kx.of_below bY)
          have hB := byV_any Yd
          refine wp_region_held_drew (S := fun _ : World => True) (by kernel_rfl) trivial ?_
          rw [← hYd]
          clear hYd
          intro hS
          refine wpAnyH_take (i := 0) (v := .pointer (some ⟨g, 0, none⟩)) rfl (by kernel_rfl) (by kernel_rfl) (by kernel_rfl) (fun _ _ _ h => h) (Or.inl ⟨by rfl, ?_⟩) (by assumption) ?_
          · intro w5 s0
            go_simp
          try simp only [Act.put, List.getElem_toArray, List.getElem_cons_zero, List.getElem_cons_succ, List.setIfInBounds_toArray, List.set_cons_zero, List.set_cons_succ]
          refine wpAnyH_take (i := 1) (v := .pointer (some ⟨g, 0, none⟩)) rfl (by kernel_rfl) (by kernel_rfl) (by kernel_rfl) (fun _ _ _ h => h) (Or.inl ⟨by rfl, ?_⟩) (by assumption) ?_
          · intro w5 s0
            go_simp
          try simp only [Act.put, List.getElem_toArray, List.getElem_cons_zero, List.getElem_cons_succ, List.setIfInBounds_toArray, List.set_cons_zero, List.set_cons_succ]
          refine wpAnyH_take (i := 2) (v := .pointer (some ⟨g, 0, none⟩)) rfl (by kernel_rfl) (by kernel_rfl) (by kernel_rfl) (fun _ _ _ h => h) (Or.inl ⟨by rfl, ?_⟩) (by assumption) ?_
          · intro w5 s0
            go_simp
          try simp only [Act.put, List.getElem_toArray, List.getElem_cons_zero, List.getElem_cons_succ, List.setIfInBounds_toArray, List.set_cons_zero, List.set_cons_succ]
          refine wpAnyH_take (i := 3) (v := .pointer (some ⟨g, 0, none⟩)) rfl (by kernel_rfl) (by kernel_rfl) (by kernel_rfl) (fun _ _ _ h => h) (Or.inl ⟨by rfl, ?_⟩) (by assumption) ?_
          · intro w5 s0
            go_simp
          try simp only [Act.put, List.getElem_toArray, List.getElem_cons_zero, List.getElem_cons_succ, List.setIfInBounds_toArray, List.set_cons_zero, List.set_cons_succ]
          refine wpAnyH_take (i := 4) (v := .iface q.t q.x) rfl (by kernel_rfl) (by kernel_rfl) (by kernel_rfl) (fun _ _ _ h => h) (Or.inl ⟨by rfl, ?_⟩) (by assumption) ?_
          · intro w5 s0
            go_simp
          try simp only [Act.put, List.getElem_toArray, List.getElem_cons_zero, List.getElem_cons_succ, List.setIfInBounds_toArray, List.set_cons_zero, List.set_cons_succ]
          refine wpAnyH_ready (rs := [5]) (by kernel_rfl) (by simp) ?_
          refine AllReadyH.cons rfl (fun K5 hK5 => ?_) AllReadyH.nil
          go_simp
          refine hB.mono ?_
          rintro e W5 ⟨rfl, b5⟩
          refine hK5.out _ _ trivial (fun _ => ?_)
          clear hK5
          try simp only [Act.put, List.getElem_toArray, List.getElem_cons_zero, List.getElem_cons_succ, List.setIfInBounds_toArray, List.set_cons_zero, List.set_cons_succ]
          have E5 := EY.up b5
          have k5 := kY.trans (Kx.of_below b5)
          have hs5 := hq W5 _ E5
          refine wpAnyH_ready (rs := [6]) (by kernel_rfl) (by simp) ?_
          refine AllReadyH.cons rfl (fun K6 hK6 => ?_) AllReadyH.nil
          go_simp
          refine hs5.mono ?_
          rintro e W6 ⟨rfl, b6⟩
          refine hK6.out _ _ trivial (fun _ => ?_)
          clear hK6
          try simp only [Act.put, List.getElem_toArray, List.getElem_cons_zero, List.getElem_cons_succ, List.setIfInBounds_toArray, List.set_cons_zero, List.set_cons_succ]
          have E6 := E5.up b6
          have k6 := k5.trans (Kx.of_below b6)
          refine wpAnyH_ready (rs := [7]) (by kernel_rfl) (by simp) ?_
          refine AllReadyH.cons rfl (fun K7 hK7 => ?_) AllReadyH.nil
          go_simp
          refine (put_any g _ _ q.T W6 E6.v.p (by rw [Lib.size_eq]; omega)).mono ?_
          rintro e W7 ⟨rfl, p7, k7⟩
          refine hK7.out _ _ trivial (fun _ => ?_)
          clear hK7
          try simp only [Act.put, List.getElem_toArray, List.getElem_cons_zero, List.getElem_cons_succ, List.setIfInBounds_toArray, List.set_cons_zero, List.set_cons_succ]
          refine wpAnyH_done (by kernel_rfl) ?_ _
          have E7 := E6.kept k7 p7
          have kk := k6.trans k7
          clear E6 k6 p7 k7 E5 k5 EY kY hs5
          go_wp2
          go_roundg (gk - 1)
          case measure => omega
          case rel => exact ⟨i + 1 + 1, l1 ++ q.T.data.toList, by go_num, by omega, kk, E7, hoo'⟩
        · have hoo' : Hid (o = (l1 ++ [32] ++ q.T.data.toList) ++ lsO (prv its (i + 1 + 1)) (its.drop (i + 1 + 1))) := by
            rw [hpv]; have := hoo.out; unfold lsO at this; rw [hb] at this; rw [List.append_assoc, List.append_assoc]; exact this
          have hsz : (l1 ++ [32]).length + q.T.data.toList.length ≤ 100000 := by have := congrArg List.length hoo'.out; rw [List.length_append, List.length_append] at this; omega
          have hs1 : l1.length ≤ 900000000 := by rw [List.length_append] at hsz; omega
          have hPR := fun W (h : IsPr W g l1 (prT C dp (.slice (some ⟨A, 0, none⟩) its.length c) nx)) => putRune_any g l1 _ 32 W h hs1
          rw [show (Utf8.encode 32).data.toList = [32] by decide +kernel] at hPR
          rw [hb] at hP
          clear hoo hd hpv hq0 hqm hsh hk hkq hq1 hpv0 hb
          go_upto_region 5 with (first | (go_at_call 17; refine hP.mono ?_; rintro e W3 ⟨rfl, b3⟩; have E3 := Ej.up b3; have k3 := kj.trans (Kx.of_below b3); have hPR3 := hPR W3 E3.v.p) | (go_at_call 22; refine hPR3.mono ?_; rintro e W4 ⟨rfl, p4, k4⟩))
          have E4 := E3.kept k4 p4
          have k5 := k3.trans k4
          obtain ⟨Yd, hYd⟩ : ∃ Yd, Yd = W4.drew := ⟨_, rfl⟩
          have bY : Below W4.heap.size W4 Yd := by rw [hYd]; exact (Below.refl _ _).drew
          have EY := E4.up bY
          have kY := k5.trans (Kx.of_below bY)
          have hB := byV_any Yd
          refine wp_region_held_drew (S := fun _ : World => True) (by kernel_rfl) trivial ?_
          rw [← hYd]
          clear hYd
          intro hS
          refine wpAnyH_take (i := 0) (v := .pointer (some ⟨g, 0, none⟩)) rfl (by kernel_rfl) (by kernel_rfl) (by kernel_rfl) (fun _ _ _ h => h) (Or.inl ⟨by rfl, ?_⟩) (by assumption) ?_
          · intro w5 s0
            go_simp
          try simp only [Act.put, List.getElem_toArray, List.getElem_cons_zero, List.getElem_cons_succ, List.setIfInBounds_toArray, List.set_cons_zero, List.set_cons_succ]
          refine wpAnyH_take (i := 1) (v := .pointer (some ⟨g, 0, none⟩)) rfl (by kernel_rfl) (by kernel_rfl) (by kernel_rfl) (fun _ _ _ h => h) (Or.inl ⟨by rfl, ?_⟩) (by assumption) ?_
          · intro w5 s0
            go_simp
          try simp only [Act.put, List.getElem_toArray, List.getElem_cons_zero, List.getElem_cons_succ, List.setIfInBounds_toArray, List.set_cons_zero, List.set_cons_succ]
          refine wpAnyH_take (i := 2) (v := .pointer (some ⟨g, 0, none⟩)) rfl (by kernel_rfl) (by kernel_rfl) (by kernel_rfl) (fun _ _ _ h => h) (Or.inl ⟨by rfl, ?_⟩) (by assumption) ?_
          · intro w5 s0
            go_simp
          try simp only [Act.put, List.getElem_toArray, List.getElem_cons_zero, List.getElem_cons_succ, List.setIfInBounds_toArray, List.set_cons_zero, List.set_cons_succ]
          refine wpAnyH_take (i := 3) (v := .pointer (some ⟨g, 0, none⟩)) rfl (by kernel_rfl) (by kernel_rfl) (by kernel_rfl) (fun _ _ _ h => h) (Or.inl ⟨by rfl, ?_⟩) (by assumption) ?_
          · intro w5 s0
            go_simp
          try simp only [Act.put, List.getElem_toArray, List.getElem_cons_zero, List.getElem_cons_succ, List.setIfInBounds_toArray, List.set_cons_zero, List.set_cons_succ]
          refine wpAnyH_take (i := 4) (v := .iface q.t q.x) rfl (by kernel_rfl) (by kernel_rfl) (by kernel_rfl) (fun _ _ _ h => h) (Or.inl ⟨by rfl, ?_⟩) (by assumption) ?_
          · intro w5 s0
            go_simp
          try simp only [Act.put, List.getElem_toArray, List.getElem_cons_zero, List.getElem_cons_succ, List.setIfInBounds_toArray, List.set_cons_zero, List.set_cons_succ]
          refine wpAnyH_ready (rs := [5]) (by kernel_rfl) (by simp) ?_
          refine AllReadyH.cons rfl (fun K5 hK5 => ?_) AllReadyH.nil
          go_simp
          refine hB.mono ?_
          rintro e W5 ⟨rfl, b5⟩
          refine hK5.out _ _ trivial (fun _ => ?_)
          clear hK5
          try simp only [Act.put, List.getElem_toArray, List.getElem_cons_zero, List.getElem_cons_succ, List.setIfInBounds_toArray, List.set_cons_zero, List.set_cons_succ]
          have E5 := EY.up b5
          have k5 := kY.trans (Kx.of_below b5)
          have hs5 := hq W5 _ E5
          refine wpAnyH_ready (rs := [6]) (by kernel_rfl) (by simp) ?_
          refine AllReadyH.cons rfl (fun K6 hK6 => ?_) AllReadyH.nil
          go_simp
          refine hs5.mono ?_
          rintro e W6 ⟨rfl, b6⟩
          refine hK6.out _ _ trivial (fun _ => ?_)
          clear hK6
          try simp only [Act.put, List.getElem_toArray, List.getElem_cons_zero, List.getElem_cons_succ, List.setIfInBounds_toArray, List.set_cons_zero, List.set_cons_succ]
          have E6 := E5.up b6
          have k6 := k5.trans (Kx.of_below b6)
          refine wpAnyH_ready (rs := [7]) (by kernel_rfl) (by simp) ?_
          refine AllReadyH.cons rfl (fun K7 hK7 => ?_) AllReadyH.nil
          go_simp
          refine (put_any g _ _ q.T W6 E6.v.p (by rw [Lib.size_eq]; omega)).mono ?_
          rintro e W7 ⟨rfl, p7, k7⟩
          refine hK7.out _ _ trivial (fun _ => ?_)
          clear hK7
          try simp only [Act.put, List.getElem_toArray, List.getElem_cons_zero, List.getElem_cons_succ, List.setIfInBounds_toArray, List.set_cons_zero, List.set_cons_succ]
          refine wpAnyH_done (by kernel_rfl) ?_ _
          have E7 := E6.kept k7 p7
          have kk := k6.trans k7
          clear E6 k6 p7 k7 E5 k5 EY kY hs5
          go_wp2
          go_roundg (gk - 1)
          case measure => omega
          case rel => exact ⟨i + 1 + 1, l1 ++ [32] ++ q.T.data.toList, by go_num, by omega, kk, E7, hoo'⟩
    · have hltI : ¬ (j : Int) < its.length := by omega
      rw [List.drop_eq_nil_of_le (by omega)] at hoo
      have hoo' : o = l1 := by
        have := hoo.out
        have e : lsO (prv its j) [] = [] := by cases prv its j <;> rfl
        rw [e, List.append_nil] at this
        exact this
      subst hoo'
      go_wp2
      go_end0
      exact ⟨rfl, Ej.v.p, kj⟩
end Go.Proofs.YtjfmhghpkefihaaGreatDoor

/- Values in memory: what a value is that is made of a descriptor; madeAll. -/
namespace Go.Proofs.YtjfmhghpkefihaaGreatDoor
open Go.RowKit
set_option linter.unusedVariables false

/-- All descriptors that are looked at. -/
def nodes : D → List D
  | ⟨kind, ty, bits, imag, text, names, parts, hook⟩ => ⟨kind, ty, bits, imag, text, names, parts, hook⟩ :: (if great kind then parts.flatMap fun x => nodes x else [])
theorem nodes_eq (d : D) : nodes d = d :: (if great d.kind then d.parts.flatMap nodes else []) := by
  obtain ⟨kind, ty, bits, imag, text, names, parts, hook⟩ := d
  rw [nodes]
theorem pre_fst : ∀ (m : Nat) (d : D) (k : Int), SizeOf.sizeOf d ≤ m → (pre d k).map (·.1) = nodes d
  | 0, d, k, h => by cases d; simp at h
  | m + 1, d, k, h => by
    rw [pre_eq, nodes_eq, List.map_cons]
    congr 1
    split
    · unfold preAll
      rw [List.map_flatMap]
      have : ∀ l : List D, (∀ x ∈ l, SizeOf.sizeOf x < SizeOf.sizeOf d) → (l.flatMap fun x => (pre x (k + 1)).map (·.1)) = l.flatMap nodes := by
        intro l
        induction l with
        | nil => intro _; rfl
        | cons x l ih =>
          intro hl
          rw [List.flatMap_cons, List.flatMap_cons, ih fun y hy => hl y (List.mem_cons_of_mem _ hy), pre_fst m x (k + 1) (by have := hl x (List.mem_cons_self ..); omega)]
      exact this d.parts fun x hx => parts_lt hx
    · rfl
theorem pre_nodes (d : D) (k : Int) : (pre d k).map (·.1) = nodes d := pre_fst _ d k (Nat.le_refl _)
theorem nodes_part {d x y : D} (hg : great d.kind = true) (hx : x ∈ d.parts) (hy : y ∈ nodes x) : y ∈ nodes d := by
  rw [nodes_eq, if_pos hg]
  exact List.mem_cons_of_mem _ (List.mem_flatMap.2 ⟨x, hx, hy⟩)
theorem nodes_self (d : D) : d ∈ nodes d := by rw [nodes_eq]; exact List.mem_cons_self ..

/-- A row of values, in blocks of which S holds, each of which R says what it is made of. -/
def Vals (R : Value → D → Prop) (S : Nat → Prop) (W : World) (a : Option Addr) (l : List D) : Prop :=
  ∀ (i : Nat) (y : D), l[i]? = some y → ∃ b off t u, a = some ⟨b, off, none⟩ ∧ S b ∧ W.cell? ⟨b, off + i, none⟩ = some (.iface t u) ∧ R (.iface t u) y
/-- A row of texts, likewise. -/
def StrsS (S : Nat → Prop) (W : World) (a : Option Addr) (l : List ByteArray) : Prop :=
  ∀ (i : Nat) (s : ByteArray), l[i]? = some s → ∃ b off, a = some ⟨b, off, none⟩ ∧ S b ∧ W.cell? ⟨b, off + i, none⟩ = some (.string s)
/-- A row of entries, likewise. -/
def Ents (R : Value → D → Prop) (S : Nat → Prop) (W : World) (a : Option Addr) (l : List (D × D)) : Prop :=
  ∀ (i : Nat) (p : D × D), l[i]? = some p → ∃ b off t u t' u', a = some ⟨b, off, none⟩ ∧ S b ∧ W.cell? ⟨b, off + i * 2, none⟩ = some (.iface t u) ∧ W.cell? ⟨b, off + i * 2 + 1, none⟩ = some (.iface t' u') ∧ R (.iface t u) p.1 ∧ R (.iface t' u') p.2
/-- The value v is made of the descriptor d (sr: the entries of a map in their order). -/
def VlC (sr : List D → List (D × D)) : Nat → (Nat → Prop) → World → Value → D → Prop
  | 0, _, _, _, _ => False
  | n + 1, S, W, v, d =>
    if d.kind ≤ 17 then v = mdV d
    else if d.kind = 18 then ∃ na nc fa fc, v = .iface 157 (.agg #[.int .i64 d.kind, .string d.ty, .int .i64 d.hook, .slice na d.names.length nc, .slice fa d.parts.length fc]) ∧ d.names.length ≤ nc ∧ nc ≤ maxLen ∧ d.parts.length ≤ fc ∧ fc ≤ maxLen ∧ StrsS S W na d.names ∧ Vals (VlC sr n S W) S W fa d.parts
    else if d.kind = 21 then ∃ fa fc, v = .iface 163 (.agg #[.int .i64 d.kind, .string d.ty, .int .i64 d.hook, .slice fa (sr d.parts).length fc]) ∧ (sr d.parts).length ≤ fc ∧ fc ≤ maxLen ∧ Ents (VlC sr n S W) S W fa (sr d.parts)
    else if d.kind = 22 then ∃ fa fc, v = .iface 165 (.agg #[.int .i64 d.kind, .string d.ty, .int .i64 d.hook, .int .u64 d.bits, .slice fa d.parts.length fc]) ∧ d.parts.length ≤ fc ∧ fc ≤ maxLen ∧ Vals (VlC sr n S W) S W fa d.parts
    else ∃ fa fc, v = .iface 159 (.agg #[.int .i64 d.kind, .string d.ty, .int .i64 d.hook, .slice fa d.parts.length fc]) ∧ d.parts.length ≤ fc ∧ fc ≤ maxLen ∧ Vals (VlC sr n S W) S W fa d.parts
/-- What is kept from a world to another one: the blocks of which S holds. -/
def Kept (S S' : Nat → Prop) (W W' : World) : Prop := ∀ b, S b → b < W.heap.size → S' b ∧ ∀ o, W'.cell? ⟨b, o, none⟩ = W.cell? ⟨b, o, none⟩
theorem Kept.at {S S' : Nat → Prop} {W W' : World} (h : Kept S S' W W') {b o : Nat} {v : Value} (hs : S b) (hc : W.cell? ⟨b, o, none⟩ = some v) : S' b ∧ W'.cell? ⟨b, o, none⟩ = some v :=
  let ⟨h1, h2⟩ := h b hs (lt_of_cell hc); ⟨h1, (h2 o).trans hc⟩
theorem Vals.turn {R R' : Value → D → Prop} {S S' : Nat → Prop} {W W' : World} {a : Option Addr} {l : List D} (h : Vals R S W a l) (hk : Kept S S' W W') (hR : ∀ v y, R v y → R' v y) : Vals R' S' W' a l := by
  intro i y hy
  obtain ⟨b, off, t, u, h1, h2, h3, h4⟩ := h i y hy
  obtain ⟨k1, k2⟩ := hk.at h2 h3
  exact ⟨b, off, t, u, h1, k1, k2, hR _ _ h4⟩
theorem Ents.turn {R R' : Value → D → Prop} {S S' : Nat → Prop} {W W' : World} {a : Option Addr} {l : List (D × D)} (h : Ents R S W a l) (hk : Kept S S' W W') (hR : ∀ v y, R v y → R' v y) : Ents R' S' W' a l := by
  intro i y hy
  obtain ⟨b, off, t, u, t', u', h1, h2, h3, h4, h5, h6⟩ := h i y hy
  obtain ⟨k1, k2⟩ := hk.at h2 h3
  exact ⟨b, off, t, u, t', u', h1, k1, k2, (hk.at h2 h4).2, hR _ _ h5, hR _ _ h6⟩
theorem StrsS.turn {S S' : Nat → Prop} {W W' : World} {a : Option Addr} {l : List ByteArray} (h : StrsS S W a l) (hk : Kept S S' W W') : StrsS S' W' a l := by
  intro i y hy
  obtain ⟨b, off, h1, h2, h3⟩ := h i y hy
  obtain ⟨k1, k2⟩ := hk.at h2 h3
  exact ⟨b, off, h1, k1, k2⟩
theorem VlC.turn {sr : List D → List (D × D)} {S S' : Nat → Prop} {W W' : World} (hk : Kept S S' W W') : ∀ {n : Nat} {v : Value} {d : D}, VlC sr n S W v d → VlC sr n S' W' v d
  | 0, _, _, h => h
  | n + 1, v, d, h => by
    unfold VlC at h ⊢
    split at h
    · rw [if_pos (by assumption)]; exact h
    rw [if_neg (by assumption)]
    split at h
    · rw [if_pos (by assumption)]
      obtain ⟨na, nc, fa, fc, h1, h2, h3, h4, h5, h6, h7⟩ := h
      exact ⟨na, nc, fa, fc, h1, h2, h3, h4, h5, h6.turn hk, h7.turn hk fun v y => VlC.turn hk⟩
    rw [if_neg (by assumption)]
    split at h
    · rw [if_pos (by assumption)]
      obtain ⟨fa, fc, h1, h4, h5, h7⟩ := h
      exact ⟨fa, fc, h1, h4, h5, h7.turn hk fun v y => VlC.turn hk⟩
    rw [if_neg (by assumption)]
    split at h
    · rw [if_pos (by assumption)]
      obtain ⟨fa, fc, h1, h4, h5, h7⟩ := h
      exact ⟨fa, fc, h1, h4, h5, h7.turn hk fun v y => VlC.turn hk⟩
    rw [if_neg (by assumption)]
    obtain ⟨fa, fc, h1, h4, h5, h7⟩ := h
    exact ⟨fa, fc, h1, h4, h5, h7.turn hk fun v y => VlC.turn hk⟩
theorem Kept.below {S S' : Nat → Prop} {W W' : World} (h : Below W.heap.size W W') (hS : ∀ b, S b → b < W.heap.size → S' b) : Kept S S' W W' := fun b hb hl => ⟨hS b hb hl, fun o => h.cell hl⟩

/-- Of one descriptor: the outcome of made. -/
def MadeC (sr : List D → List (D × D)) (tw : D → Bool) (n : Nat) (W0 : World) (x : D) : Prop :=
  ∀ (nv pv : Value) (W : Cl W0), RdC n W0 nv pv x → Calls Tryz.prog 52 #[DV x nv pv] W.w fun e W' => Below W.w.heap.size W.w W' ∧
    ((tw x = false ∧ ∃ t y, e = .returned (.iface t y) ∧ VlC sr n (fun b => W.w.heap.size ≤ b) W' (.iface t y) x) ∨ (tw x = true ∧ e = .panicked (PE 5)))
theorem own_ge8 {w : World} {B : Nat} {e : TypeId} {ao : Option Addr} {n c : Nat} {us : List Value} (h : w.ownsRow B e 1 (.slice ao n c) n us) : ∀ k, Value.ownBlock (.slice ao n c) = some k → B ≤ k := by
  intro k hk
  rcases h.2 with ⟨h1, -⟩ | ⟨g, cap, cur, h1, hB, -⟩
  · cases h1; cases hk
  · cases h1
    have : g = k := Option.some.inj hk
    omega
theorem own_lt8 {w : World} {B : Nat} {e : TypeId} {ao : Option Addr} {n c : Nat} {us : List Value} (h : w.ownsRow B e 1 (.slice ao n c) n us) : ∀ k, Value.ownBlock (.slice ao n c) = some k → k < w.heap.size := by
  intro k hk
  rcases h.2 with ⟨h1, -⟩ | ⟨g, cap, cur, h1, hB, hg, -⟩
  · cases h1; cases hk
  · cases h1
    have : g = k := Option.some.inj hk
    have := (Array.getElem?_eq_some_iff.1 hg).1
    omega
theorem own_up8 {w w' : World} {B : Nat} {e : TypeId} {v : Value} {n : Nat} {us : List Value} (h : w.ownsRow B e 1 v n us) (b : Below w.heap.size w w') : w'.ownsRow B e 1 v n us := by
  refine ⟨h.1, ?_⟩
  rcases h.2 with h1 | ⟨g, cap, cur, h1, hB, hg, k⟩
  · exact .inl h1
  · exact .inr ⟨g, cap, cur, h1, hB, (b.block g (Array.getElem?_eq_some_iff.1 hg).1).trans hg, k⟩
theorem own_slice8 {w : World} {B : Nat} {e : TypeId} {v : Value} {n : Nat} {us : List Value} (h : w.ownsRow B e 1 v n us) : ∃ ao c, v = .slice ao n c ∧ n ≤ c ∧ c ≤ maxLen := by
  rcases h.2 with ⟨h1, rfl⟩ | ⟨g, cap, cur, h1, hB, hg, k1, k2, -⟩
  · exact ⟨none, 0, h1, Nat.le_refl _, Nat.zero_le _⟩
  · exact ⟨_, cap, h1, k1, k2⟩
end Go.Proofs.YtjfmhghpkefihaaGreatDoor
