/- printer: arguments alone. -/
import Derived.Test.YtjfmhghpkefihaaGreatDoorPt23
namespace Go.Proofs.YtjfmhghpkefihaaGreatDoor
open Go.RowKit
set_option linter.unusedVariables false
set_option linter.unusedSimpArgs false
def KdQ (t : TypeId) (x : Value) (k : Int) : Prop := ∃ (ty : ByteArray) (h : Int), ∀ Z : World, Sem.run Tryz.prog (method 525 t x "Kind") Z = .ok (353, .agg #[.int .i64 k, .string ty, .int .i64 h]) Z
theorem kq_I (h n : Int) : KdQ 141 (.agg #[.int .i64 6, .string ⟨#[]⟩, .int .i64 h, .int .i64 n]) 6 := ⟨⟨#[]⟩, h, fun Z => by kernel_rfl⟩
theorem kq_X (h : Int) (s : ByteArray) : KdQ 151 (.agg #[.int .i64 16, .string ⟨#[]⟩, .int .i64 h, .string s]) 16 := ⟨⟨#[]⟩, h, fun Z => by kernel_rfl⟩
set_option maxRecDepth 1000000 in
set_option maxHeartbeats 2000000 in
theorem parts_any (t1 t2 : TypeId) (x1 x2 : Value) (k1 k2 : Int) (hk1 : KdQ t1 x1 k1) (hk2 : KdQ t2 x2 k2) (w : World) :
  Calls Tryz.prog 17 #[.iface t1 x1, .iface t2 x2] w fun e w' => e = .returned (.bool (k1 != 16 && k2 != 16)) ∧ Below w.heap.size w w' := by
 obtain ⟨y1, h1, hk1⟩ := hk1
 obtain ⟨y2, h2, hk2⟩ := hk2
 by_cases e1 : k1 = 16
 ·subst e1
  go_enter Tryz.func17, Tryz.ntmps17
  go_wp2
  go_ret
  exact ⟨by simp, by go_grown⟩
 ·have hd1 : decide (k1 = 16) = false := decide_eq_false e1
  go_enter Tryz.func17, Tryz.ntmps17
  go_wp2
  go_ret
  exact ⟨by simp, by go_grown⟩
structure It where
 t : TypeId
 x : Value
 k : Int
 T : ByteArray
abbrev It.v (q : It) : Value := .iface q.t q.x
def lsO : Option Int → List It → List UInt8
 | _, [] => []
 | none, q :: r => q.T.data.toList ++ lsO (some q.k) r
 | some k, q :: r => (if k != 16 && q.k != 16 then [32] else []) ++ (q.T.data.toList ++ lsO (some q.k) r)
def prv (its : List It) : Nat → Option Int
 | 0 => none
 | j + 1 => (its[j]?).map (·.k)
theorem En.arg {w : World} {g C M A n c : Nat} {l : List UInt8} {dp : Int} {vs : List Value} {nx : Int} (h : En w g C M l dp (.slice (some ⟨A, 0, none⟩) n c) vs nx) {j : Nat} {u : Value} (hj : vs[j]? = some u) : w.cell? ⟨A, j, none⟩ = some u := by
 obtain ⟨a, c', e, h1, h2, ha⟩ := h.a
 injection e with e1 e2 e3
 obtain ⟨A', rfl, -, hc⟩ := ha j u hj
 injection e1 with e1
 injection e1 with e1
 subst e1
 exact hc
set_option maxRecDepth 1000000 in
set_option maxHeartbeats 2000000 in
theorem list_of (its : List It) (h0 : 0 < its.length) (h16 : its.length ≤ 1000) {w : World} {g C M : Nat} {l : List UInt8} {dp : Int} {av : Value} {nx : Int} (hE : En w g C M l dp av (its.map It.v) nx) (hk : ∀ q ∈ its, KdQ q.t q.x q.k)
  (hsh : ∀ q ∈ its, ∀ W l', En W g C M l' dp av (its.map It.v) nx → Calls Tryz.prog 24 #[.pointer (some ⟨g, 0, none⟩), .iface q.t q.x, SV (bareQ 118)] W fun e w' => e = .returned (.string q.T) ∧ Below W.heap.size W w') (o : List UInt8) (ho : o = l ++ lsO none its) (hl : o.length ≤ 100000) :
  Calls Tryz.prog 16 #[.pointer (some ⟨g, 0, none⟩), .func (.func 17) #[] #[]] w fun e w' => e = .returned (.tuple #[]) ∧ IsPr w' g o (prT C dp av nx) ∧ Kx (fun k => k = g) w w' := by
 obtain ⟨a, c, rfl, hc1, hc2, ha⟩ := hE.a
 obtain ⟨A, rfl, hA, -⟩ := ha 0 its[0].v (by rw [List.getElem?_map, List.getElem?_eq_getElem h0]; rfl)
 rw [List.length_map] at hc1 hE hsh ⊢
 clear ha
 have HO : Hid (o = l ++ lsO none its) := ho
 clear ho
 have hcI : (its.length : Int) ≤ c := by omega
 have h16I : (its.length : Int) ≤ 1000 := by omega
 have q2 : w.cell? ⟨g, 4099, none⟩ = some (.slice (some ⟨A, 0, none⟩) its.length c) := hE.v.p.tl (i := 2) rfl
 go_enter Tryz.func16, Tryz.ntmps16
 go_wp2
 clear q2
 go_loopg [4, 5, 11] its.length (fun gg z4 z5 i wr => ∃ (j : Nat) (l1 : List UInt8), i = .int .i64 j ∧ j + gg = its.length ∧ Kx (fun k => k = g) w wr ∧ En wr g C M l1 dp (.slice (some ⟨A, 0, none⟩) its.length c) (its.map It.v) nx ∧ Hid (o = l1 ++ lsO (prv its j) (its.drop j)))
 case atStart => exact ⟨0, l, rfl, Nat.zero_add _, Kx.refl _ _, hE, HO⟩
 case round =>
  obtain ⟨j, l1, rfl, hjg, kj, Ej, hoo⟩ := hrel
  by_cases hlt : j < its.length
  ·have hltI : (j : Int) < its.length := by omega
   obtain ⟨q, hq0⟩ : ∃ q, its[j]? = some q := ⟨its[j], List.getElem?_eq_getElem hlt⟩
   have hqm : q ∈ its := List.mem_of_getElem? hq0
   have hd : its.drop j = q :: its.drop (j + 1) := by
    obtain ⟨h, rfl⟩ := List.getElem?_eq_some_iff.1 hq0
    exact List.drop_eq_getElem_cons h
   have hpv : prv its (j + 1) = some q.k := by show (its[j]?).map _ = _; rw [hq0]; rfl
   have hcl : wr.cell? ⟨A, j, none⟩ = some (.iface q.t q.x) := Ej.arg (by rw [List.getElem?_map, hq0]; rfl)
   have hq := hsh q hqm
   have hkq := hk q hqm
   rw [hd] at hoo
   cases j with
   | zero =>
     have hoo' : Hid (o = (l1 ++ q.T.data.toList) ++ lsO (prv its 1) (its.drop 1)) := by rw [hpv]; have := hoo.out; rw [List.append_assoc]; exact this
     have hsz : l1.length + q.T.data.toList.length ≤ 100000 := by have := congrArg List.length hoo'.out; rw [List.length_append, List.length_append] at this; omega
     clear hoo hd hpv hq0 hqm hsh hk hkq
     go_wp2
     obtain ⟨Yd, hYd⟩ : ∃ Yd, Yd = wr.drew := ⟨_, rfl⟩
     have bY : Below wr.heap.size wr Yd := by rw [hYd]; exact (Below.refl _ _).drew
     have EY := Ej.up bY
     have kY := kj.trans (Kx.of_below bY)
     have hB := byV_any Yd
     refine wp_region_held_drew (S := fun _ : World => True) (by kernel_rfl) trivial ?_
     rw [← hYd]
     clear hYd
     intro hS
     refine tk 0 (.pointer (some ⟨g, 0, none⟩)) rfl (by kernel_rfl) (fun _ _ _ h => h) (by rfl) (by assumption) ?_ ?_
     ·intro w5 s0
      go_simp
     try simp only [Act.put, lys]
     refine tk 1 (.pointer (some ⟨g, 0, none⟩)) rfl (by kernel_rfl) (fun _ _ _ h => h) (by rfl) (by assumption) ?_ ?_
     ·intro w5 s0
      go_simp
     try simp only [Act.put, lys]
     refine tk 2 (.pointer (some ⟨g, 0, none⟩)) rfl (by kernel_rfl) (fun _ _ _ h => h) (by rfl) (by assumption) ?_ ?_
     ·intro w5 s0
      go_simp
     try simp only [Act.put, lys]
     refine tk 3 (.pointer (some ⟨g, 0, none⟩)) rfl (by kernel_rfl) (fun _ _ _ h => h) (by rfl) (by assumption) ?_ ?_
     ·intro w5 s0
      go_simp
     try simp only [Act.put, lys]
     refine tk 4 (.iface q.t q.x) rfl (by kernel_rfl) (fun _ _ _ h => h) (by rfl) (by assumption) ?_ ?_
     ·intro w5 s0
      go_simp
     try simp only [Act.put, lys]
     refine rd1 5 (by kernel_rfl) rfl fun K5 hK5 => ?_
     go_simp
     refine hB.mono ?_
     rintro e W5 ⟨rfl, b5⟩
     refine hK5.out _ _ trivial (fun _ => ?_)
     clear hK5
     try simp only [Act.put, lys]
     have E5 := EY.up b5
     have k5 := kY.trans (Kx.of_below b5)
     have hs5 := hq W5 _ E5
     refine rd1 6 (by kernel_rfl) rfl fun K6 hK6 => ?_
     go_simp
     refine hs5.mono ?_
     rintro e W6 ⟨rfl, b6⟩
     refine hK6.out _ _ trivial (fun _ => ?_)
     clear hK6
     try simp only [Act.put, lys]
     have E6 := E5.up b6
     have k6 := k5.trans (Kx.of_below b6)
     refine rd1 7 (by kernel_rfl) rfl fun K7 hK7 => ?_
     go_simp
     refine (put_any g _ _ q.T W6 E6.v.p (by rw [Lib.size_eq]; omega)).mono ?_
     rintro e W7 ⟨rfl, p7, k7⟩
     refine hK7.out _ _ trivial (fun _ => ?_)
     clear hK7
     try simp only [Act.put, lys]
     refine wpAnyH_done (by kernel_rfl) ?_ _
     have E7 := E6.kept k7 p7
     have kk := k6.trans k7
     clear E6 k6 p7 k7 E5 k5 EY kY hs5
     go_wp2
     go_roundg (gk - 1)
     case measure => omega
     case rel => exact ⟨1, l1 ++ q.T.data.toList, by go_num, by omega, kk, E7, hoo'⟩
   | succ i =>
     obtain ⟨q0, hq1⟩ : ∃ q, its[i]? = some q := ⟨its[i], List.getElem?_eq_getElem (by omega)⟩
     have hpv0 : prv its (i + 1) = some q0.k := by show (its[i]?).map _ = _; rw [hq1]; rfl
     have hcl0 : wr.cell? ⟨A, i, none⟩ = some (.iface q0.t q0.x) := Ej.arg (by rw [List.getElem?_map, hq1]; rfl)
     have q3 : wr.cell? ⟨g, 4099, none⟩ = some (.slice (some ⟨A, 0, none⟩) its.length c) := Ej.v.p.tl (i := 2) rfl
     have hP := parts_any q0.t q.t q0.x q.x q0.k q.k (hk q0 (List.mem_of_getElem? hq1)) hkq wr
     rw [hpv0] at hoo
     have hii : ¬ (i : Int) + 1 ≤ 0 := by omega
     have hii2 : (0 : Int) < (i : Int) + 1 := by omega
     have hil : (i : Int) + 1 < its.length := by omega
     have hil2 : (i : Int) < its.length := by omega
     rcases hb : (q0.k != 16 && q.k != 16) with _ | _
     ·have hoo' : Hid (o = (l1 ++ q.T.data.toList) ++ lsO (prv its (i + 1 + 1)) (its.drop (i + 1 + 1))) := by
       rw [hpv]; have := hoo.out; unfold lsO at this; rw [hb] at this; rw [List.append_assoc]; exact this
      have hsz : l1.length + q.T.data.toList.length ≤ 100000 := by have := congrArg List.length hoo'.out; rw [List.length_append, List.length_append] at this; omega
      rw [hb] at hP
      clear hoo hd hpv hq0 hqm hsh hk hkq hq1 hpv0 hb
      go_upto_region 5 with (go_at_call 17; refine hP.mono ?_; rintro e W3 ⟨rfl, b3⟩)
      have E3 := Ej.up b3
      have k3 := kj.trans (Kx.of_below b3)
      obtain ⟨Yd, hYd⟩ : ∃ Yd, Yd = W3.drew := ⟨_, rfl⟩
      have bY : Below W3.heap.size W3 Yd := by rw [hYd]; exact (Below.refl _ _).drew
      have EY := E3.up bY
      have kY := k3.trans (Kx.of_below bY)
      have hB := byV_any Yd
      refine wp_region_held_drew (S := fun _ : World => True) (by kernel_rfl) trivial ?_
      rw [← hYd]
      clear hYd
      intro hS
      refine tk 0 (.pointer (some ⟨g, 0, none⟩)) rfl (by kernel_rfl) (fun _ _ _ h => h) (by rfl) (by assumption) ?_ ?_
      ·intro w5 s0
       go_simp
      try simp only [Act.put, lys]
      refine tk 1 (.pointer (some ⟨g, 0, none⟩)) rfl (by kernel_rfl) (fun _ _ _ h => h) (by rfl) (by assumption) ?_ ?_
      ·intro w5 s0
       go_simp
      try simp only [Act.put, lys]
      refine tk 2 (.pointer (some ⟨g, 0, none⟩)) rfl (by kernel_rfl) (fun _ _ _ h => h) (by rfl) (by assumption) ?_ ?_
      ·intro w5 s0
       go_simp
      try simp only [Act.put, lys]
      refine tk 3 (.pointer (some ⟨g, 0, none⟩)) rfl (by kernel_rfl) (fun _ _ _ h => h) (by rfl) (by assumption) ?_ ?_
      ·intro w5 s0
       go_simp
      try simp only [Act.put, lys]
      refine tk 4 (.iface q.t q.x) rfl (by kernel_rfl) (fun _ _ _ h => h) (by rfl) (by assumption) ?_ ?_
      ·intro w5 s0
       go_simp
      try simp only [Act.put, lys]
      refine rd1 5 (by kernel_rfl) rfl fun K5 hK5 => ?_
      go_simp
      refine hB.mono ?_
      rintro e W5 ⟨rfl, b5⟩
      refine hK5.out _ _ trivial (fun _ => ?_)
      clear hK5
      try simp only [Act.put, lys]
      have E5 := EY.up b5
      have k5 := kY.trans (Kx.of_below b5)
      have hs5 := hq W5 _ E5
      refine rd1 6 (by kernel_rfl) rfl fun K6 hK6 => ?_
      go_simp
      refine hs5.mono ?_
      rintro e W6 ⟨rfl, b6⟩
      refine hK6.out _ _ trivial (fun _ => ?_)
      clear hK6
      try simp only [Act.put, lys]
      have E6 := E5.up b6
      have k6 := k5.trans (Kx.of_below b6)
      refine rd1 7 (by kernel_rfl) rfl fun K7 hK7 => ?_
      go_simp
      refine (put_any g _ _ q.T W6 E6.v.p (by rw [Lib.size_eq]; omega)).mono ?_
      rintro e W7 ⟨rfl, p7, k7⟩
      refine hK7.out _ _ trivial (fun _ => ?_)
      clear hK7
      try simp only [Act.put, lys]
      refine wpAnyH_done (by kernel_rfl) ?_ _
      have E7 := E6.kept k7 p7
      have kk := k6.trans k7
      clear E6 k6 p7 k7 E5 k5 EY kY hs5
      go_wp2
      go_roundg (gk - 1)
      case measure => omega
      case rel => exact ⟨i + 1 + 1, l1 ++ q.T.data.toList, by go_num, by omega, kk, E7, hoo'⟩
     ·have hoo' : Hid (o = (l1 ++ [32] ++ q.T.data.toList) ++ lsO (prv its (i + 1 + 1)) (its.drop (i + 1 + 1))) := by
       rw [hpv]; have := hoo.out; unfold lsO at this; rw [hb] at this; rw [List.append_assoc, List.append_assoc]; exact this
      have hsz : (l1 ++ [32]).length + q.T.data.toList.length ≤ 100000 := by have := congrArg List.length hoo'.out; rw [List.length_append, List.length_append] at this; omega
      have hs1 : l1.length ≤ 900000000 := by rw [List.length_append] at hsz; omega
      have hPR := fun W (h : IsPr W g l1 (prT C dp (.slice (some ⟨A, 0, none⟩) its.length c) nx)) => putRune_any g l1 _ 32 W h hs1
      rw [show (Utf8.encode 32).data.toList = [32] by decide +kernel] at hPR
      rw [hb] at hP
      clear hoo hd hpv hq0 hqm hsh hk hkq hq1 hpv0 hb
      go_upto_region 5 with (first | (go_at_call 17; refine hP.mono ?_; rintro e W3 ⟨rfl, b3⟩; have E3 := Ej.up b3; have k3 := kj.trans (Kx.of_below b3); have hPR3 := hPR W3 E3.v.p) | (go_at_call 22; refine hPR3.mono ?_; rintro e W4 ⟨rfl, p4, k4⟩))
      have E4 := E3.kept k4 p4
      have k5 := k3.trans k4
      obtain ⟨Yd, hYd⟩ : ∃ Yd, Yd = W4.drew := ⟨_, rfl⟩
      have bY : Below W4.heap.size W4 Yd := by rw [hYd]; exact (Below.refl _ _).drew
      have EY := E4.up bY
      have kY := k5.trans (Kx.of_below bY)
      have hB := byV_any Yd
      refine wp_region_held_drew (S := fun _ : World => True) (by kernel_rfl) trivial ?_
      rw [← hYd]
      clear hYd
      intro hS
      refine tk 0 (.pointer (some ⟨g, 0, none⟩)) rfl (by kernel_rfl) (fun _ _ _ h => h) (by rfl) (by assumption) ?_ ?_
      ·intro w5 s0
       go_simp
      try simp only [Act.put, lys]
      refine tk 1 (.pointer (some ⟨g, 0, none⟩)) rfl (by kernel_rfl) (fun _ _ _ h => h) (by rfl) (by assumption) ?_ ?_
      ·intro w5 s0
       go_simp
      try simp only [Act.put, lys]
      refine tk 2 (.pointer (some ⟨g, 0, none⟩)) rfl (by kernel_rfl) (fun _ _ _ h => h) (by rfl) (by assumption) ?_ ?_
      ·intro w5 s0
       go_simp
      try simp only [Act.put, lys]
      refine tk 3 (.pointer (some ⟨g, 0, none⟩)) rfl (by kernel_rfl) (fun _ _ _ h => h) (by rfl) (by assumption) ?_ ?_
      ·intro w5 s0
       go_simp
      try simp only [Act.put, lys]
      refine tk 4 (.iface q.t q.x) rfl (by kernel_rfl) (fun _ _ _ h => h) (by rfl) (by assumption) ?_ ?_
      ·intro w5 s0
       go_simp
      try simp only [Act.put, lys]
      refine rd1 5 (by kernel_rfl) rfl fun K5 hK5 => ?_
      go_simp
      refine hB.mono ?_
      rintro e W5 ⟨rfl, b5⟩
      refine hK5.out _ _ trivial (fun _ => ?_)
      clear hK5
      try simp only [Act.put, lys]
      have E5 := EY.up b5
      have k5 := kY.trans (Kx.of_below b5)
      have hs5 := hq W5 _ E5
      refine rd1 6 (by kernel_rfl) rfl fun K6 hK6 => ?_
      go_simp
      refine hs5.mono ?_
      rintro e W6 ⟨rfl, b6⟩
      refine hK6.out _ _ trivial (fun _ => ?_)
      clear hK6
      try simp only [Act.put, lys]
      have E6 := E5.up b6
      have k6 := k5.trans (Kx.of_below b6)
      refine rd1 7 (by kernel_rfl) rfl fun K7 hK7 => ?_
      go_simp
      refine (put_any g _ _ q.T W6 E6.v.p (by rw [Lib.size_eq]; omega)).mono ?_
      rintro e W7 ⟨rfl, p7, k7⟩
      refine hK7.out _ _ trivial (fun _ => ?_)
      clear hK7
      try simp only [Act.put, lys]
      refine wpAnyH_done (by kernel_rfl) ?_ _
      have E7 := E6.kept k7 p7
      have kk := k6.trans k7
      clear E6 k6 p7 k7 E5 k5 EY kY hs5
      go_wp2
      go_roundg (gk - 1)
      case measure => omega
      case rel => exact ⟨i + 1 + 1, l1 ++ [32] ++ q.T.data.toList, by go_num, by omega, kk, E7, hoo'⟩
  ·have hltI : ¬ (j : Int) < its.length := by omega
   rw [List.drop_eq_nil_of_le (by omega)] at hoo
   have hoo' : o = l1 := by
    have := hoo.out
    have e : lsO (prv its j) [] = [] := by cases prv its j <;> rfl
    rw [e, List.append_nil] at this
    exact this
   subst hoo'
   go_wp2
   go_end0
   exact ⟨rfl, Ej.v.p, kj⟩
end Go.Proofs.YtjfmhghpkefihaaGreatDoor
