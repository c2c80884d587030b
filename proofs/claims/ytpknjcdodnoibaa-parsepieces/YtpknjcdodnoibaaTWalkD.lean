/- The document's parse: directive. -/
import Derived.Test.YtpknjcdodnoibaaTSt
import Derived.Deep.CutBlock
namespace Go.Proofs.Ytpknjcdodnoibaa
open Go.RowKit
set_option linter.unusedVariables false
set_option linter.unusedSimpArgs false

/-- index, with names for what it answers. -/
theorem tindex_nm {s : ByteArray} {i : Nat} {l : Bs} (h : AtP s i l) (hs : s.size ≤ 2000) : ∃ (x : Ix) (l2 : Bs) (i2 : Nat) (th : Bool), Hid (idx l = (x, l2)) ∧ AtP s i2 l2 ∧ Hid (th = false → x = ix0) ∧ Hid (th = true → x.k ≠ 0) ∧ ∀ w, Calls Try.prog 17 #[.string s, .int .i64 (i : Nat)] w fun e w' => e = .returned (.tuple #[.agg #[.int .i64 (x.k : Nat), .int .i64 (x.n : Nat)], .int .i64 (i2 : Nat), .bool th]) ∧ Below w.heap.size w w' := by
  refine ⟨(idx l).1, (idx l).2, i + (l.length - (idx l).2.length), decide (hd l = 91), rfl, h.suf (idx_suf l), ?_, ?_, fun w => tindex_any h (by omega) w⟩
  · intro hh
    have := of_decide_eq_false hh
    rw [idx_no this]
  · intro hh
    have := of_decide_eq_true hh
    exact fun h0 => (idx_k l).1 h0 this
/-- The digits of a number, with names. -/
theorem tnum_nm {s : ByteArray} {i : Nat} {l : Bs} (h : AtP s i l) (hs : s.size ≤ 2000) : ∃ (i2 : Nat) (D : ByteArray), i ≤ i2 ∧ AtP s i2 (aft l) ∧ s.extract i i2 = D ∧ Hid (i2 = i ↔ dgs l = []) ∧ (∀ w, Calls Try.prog 20 #[.string s, .int .i64 (i : Nat)] w fun e w' => e = .returned (.int .i64 (i2 : Nat)) ∧ w' = w) ∧ ∀ w, Calls Try.prog 21 #[.string D, .int .i64 1000] w fun e w' => e = .returned (.int .i64 (wN (dgs l))) ∧ w' = w := by
  have h2 := h.suf (suf_aft l)
  have hda := congrArg List.length (dgs_aft l)
  rw [List.length_append] at hda
  rw [show l.length - (aft l).length = (dgs l).length by omega] at h2
  have h2e := h2.e
  have hcut : (s.extract i (i + (dgs l).length)).data.toList = dgs l := by
    rw [h.ext h2 (by omega), show i + (dgs l).length - i = (dgs l).length by omega]
    have h3 := List.take_left (l₁ := dgs l) (l₂ := aft l)
    rw [dgs_aft l] at h3
    exact h3
  refine ⟨i + (dgs l).length, _, by omega, h2, rfl, ?_, fun w => trun_any h (by omega) w, fun w => ?_⟩
  · show _ ↔ _
    rw [← List.length_eq_zero_iff]
    omega
  · have hv := tvalue_any (s.extract i (i + (dgs l).length)) (by rw [hcut]; exact dgs_all l) (by rw [ByteArray.size_extract]; omega) 1000 (by omega) w
    rw [hcut] at hv
    exact hv
/-- The rune at a place, with names. -/
theorem tdec_nm {s : ByteArray} {i : Nat} {l : Bs} (h : AtP s i l) (hs : s.size ≤ 2000) (hne : l ≠ []) : ∃ (D : ByteArray) (c n : Nat) (b : Bool), s.extract i s.size = D ∧ Hid (nxt l = (c, n)) ∧ n ≤ l.length ∧ 1 ≤ n ∧ c ≤ 1114111 ∧ ∀ w, Calls Try.prog 22 #[.string D] w fun e w' => e = .returned (.tuple #[.int .i32 (c : Nat), .int .i64 (n : Nat), .bool b]) ∧ Below w.heap.size w w' := by
  have he := h.e
  have hl : 0 < l.length := List.length_pos_iff.2 hne
  have hcut : (s.extract i s.size).data.toList = l := by
    have h2 : AtP s s.size [] := ⟨by rw [List.drop_eq_nil_iff, list_len]; omega, by simp⟩
    rw [h.ext h2 (by omega), List.take_of_length_le (by omega)]
  have e : Utf8.decode (s.extract i s.size) 0 = nxt l := by
    rw [dec_zero, hcut]
    cases l with
    | nil => exact absurd rfl hne
    | cons x t => rfl
  refine ⟨s.extract i s.size, (nxt l).1, (nxt l).2, brk (Utf8.decode (s.extract i s.size) 0), rfl, rfl, nxt_le l, nxt_pos hne, nxt_big l, fun w => ?_⟩
  have := rdecodeB_ne (s.extract i s.size) w (by rw [ByteArray.size_extract]; unfold maxLen; omega) (by rw [ByteArray.size_extract]; omega)
  rw [e] at this
  rw [e]
  exact this
theorem dir_nm {L l1 l4 l7 : Bs} {F : Fl} {n3 n4 : Nb} {a4 b4 x6 : Ix} {c n : Nat} (hF : flg L fl0 = (F, l1)) (hM : mid l1 = (n3, a4, n4, b4, l4)) (hX : idx l4 = (x6, l7)) (hN : nxt l7 = (c, n)) :
    dir L [] = ⟨if n = 0 then 2 else 1, [], F, -1, c, n3, n4, sgl a4 b4 x6⟩ ∧ drest L = l7.drop n := by
  have e : ahd L = l7 := by unfold ahd; rw [hF]; dsimp only; rw [hM]; dsimp only; rw [hX]
  constructor
  · unfold dir
    rw [e, hN, hF]
    dsimp only
    rw [hM]
    dsimp only
    rw [hX]
  · unfold drest
    rw [e, hN]
theorem txt_nm (s : ByteArray) (i : Nat) : ba (37 :: s.data.toList.take i) = (⟨#[37]⟩ : ByteArray) ++ s.extract 0 i := by
  apply ByteArray.ext; apply Array.ext'
  rw [app_list, ByteArray.data_extract, Array.toList_extract, List.extract_eq_take_drop]
  simp [ba]
theorem wpl_moveT {ops : Array Oper} {rest : List Oper} {op : Oper} {a : Act} {w : World} {Q : Exit → Act → World → Prop} (hgd : op.guard = none) (x : Operand) (ho : op.op = .move x)
    (h : wpList Try.prog ops Q rest (a.put op.dst (a.eval x)) w) : wpList Try.prog ops Q (op :: rest) a w := by
  refine wpList_plain hgd fun K hK => ?_
  unfold Oper.wp execOp
  simp only [ho, Sem.run_bind, Sem.run_pure, Result.andThen_ok]
  exact hK _ _ h
theorem wpl_assignT {ops : Array Oper} {rest : List Oper} {op : Oper} {a : Act} {w : World} {Q : Exit → Act → World → Prop} (hgd : op.guard = none) (x : Operand) (ho : op.op = .assign x)
    (h : wpList Try.prog ops Q rest (a.put op.dst (a.eval x)) w) : wpList Try.prog ops Q (op :: rest) a w := by
  refine wpList_plain hgd fun K hK => ?_
  unfold Oper.wp execOp
  simp only [ho, Sem.run_bind, Sem.run_pure, Result.andThen_ok]
  exact hK _ _ h
theorem Dst.fin {w0 : World} {pv us : List Value} {w : World} (h : Dst w0 pv w) (hu : us.length = 20) : Bx (w.setCells w0.heap.size 0 us) w0.heap.size us ∧ Below w0.heap.size w0 (w.setCells w0.heap.size 0 us) :=
  ⟨h.a.all us (by rw [hu]; rfl), below_sc h.b (Nat.le_refl _) _ _⟩
set_option maxRecDepth 1000000 in
set_option maxHeartbeats 8000000 in
theorem tdir_any {s : ByteArray} (hs : s.size ≤ 2000) (w : World) : Calls Try.prog 12 #[.string s] w fun e w' => e = .returned (.tuple #[.agg (pcV (dir s.data.toList []) (ba (37 :: s.data.toList.take (s.size - (drest s.data.toList).length)))).toArray, .int .i64 ((s.size - (drest s.data.toList).length : Nat) : Int)]) ∧ Below w.heap.size w w' := by
  have hsI : (s.size : Int) ≤ 2000 := by omega
  have hA : AtP s 0 s.data.toList := ⟨by simp, by rw [list_len]; omega⟩
  have hbo := build_open
  obtain ⟨W1, hW1⟩ : ∃ W1 : World, W1 = ((w.alloc (.cells #[.int .i64 0, .string ⟨#[]⟩, .bool false, .bool false, .bool false, .bool false, .bool false, .int .i64 0, .int .i64 0, .int .i32 0, .int .i64 0, .int .i64 0, .int .i64 0, .int .i64 0, .int .i64 0, .int .i64 0, .int .i64 0, .int .i64 0, .int .i64 0, .int .i64 0] 34)).alloc (.cells #[.int .i64 0, .string ⟨#[]⟩, .bool false, .bool false, .bool false, .bool false, .bool false, .int .i64 0, .int .i64 0, .int .i32 0, .int .i64 0, .int .i64 0, .int .i64 0, .int .i64 0, .int .i64 0, .int .i64 0, .int .i64 0, .int .i64 0, .int .i64 0, .int .i64 0] 34)).setCells (w.heap.size + 1) 0 (pieceV 2 ⟨#[]⟩ fl0 0 0 nb0 nb0 ix0) := ⟨_, rfl⟩
  have hz : (w.alloc (.cells (pieceV 0 ⟨#[]⟩ fl0 0 0 nb0 nb0 ix0).toArray 34)).heap.size = w.heap.size + 1 := by simp
  have pb : Bx ((w.alloc (.cells (pieceV 0 ⟨#[]⟩ fl0 0 0 nb0 nb0 ix0).toArray 34)).alloc (.cells (pieceV 0 ⟨#[]⟩ fl0 0 0 nb0 nb0 ix0).toArray 34)) (w.heap.size + 1) (pieceV 0 ⟨#[]⟩ fl0 0 0 nb0 nb0 ix0) := by
    have := Bx.new (w.alloc (.cells (pieceV 0 ⟨#[]⟩ fl0 0 0 nb0 nb0 ix0).toArray 34)) (pieceV 0 ⟨#[]⟩ fl0 0 0 nb0 nb0 ix0) 34
    rwa [hz] at this
  have d1 : Dst w (pieceV 2 ⟨#[]⟩ fl0 0 0 nb0 nb0 ix0) W1 := by
    rw [hW1]
    refine ⟨?_, pb.all _ rfl, ?_⟩
    · exact ((Bx.new w (pieceV 0 ⟨#[]⟩ fl0 0 0 nb0 nb0 ix0) 34).up ((Below.refl _ _).alloc (Nat.le_refl _) _)).oth (by omega) _ _
    · exact below_sc (((Below.refl _ _).alloc (Nat.le_refl _) _).alloc (by simp) _) (by omega) _ _
  go_enter Try.func12, Try.ntmps12
  go_upto_region 2 with (refine wpl_store20d rfl (.tmp 4) (.tmp 16) rfl (us := pieceV 2 ⟨#[]⟩ fl0 0 0 nb0 nb0 ix0) rfl rfl pb rfl rfl (pv_oneT _ _ _ _ _ _ _ _) ?_)
  rw [← hW1]
  clear hW1
  try simp only [Act.put]
  clear hbo pb hz
  generalize Value.agg #[.int .i64 2, .string ⟨#[]⟩, .bool false, .bool false, .bool false, .bool false, .bool false, .int .i64 0, .int .i64 0, .int .i32 0, .int .i64 0, .int .i64 0, .int .i64 0, .int .i64 0, .int .i64 0, .int .i64 0, .int .i64 0, .int .i64 0, .int .i64 0, .int .i64 0] = pav
  have c7 := d1.p.c 7 _ rfl
  have c8 := d1.p.c 8 _ rfl
  have z7 := d1.p.z 7
  have z8 := d1.p.z 8
  have d2 : Dst w (pieceV 2 ⟨#[]⟩ fl0 (-1) 0 nb0 nb0 ix0) ((W1.setCell ⟨w.heap.size + 1, 7, none⟩ (.int .i64 (-1))).setCell ⟨w.heap.size + 1, 8, none⟩ (.int .i64 (-1))) := (d1.set 7 (by simp [pieceV]) (.int .i64 (-1))).set 8 (by simp [pieceV]) (.int .i64 (-1))
  go_upto_region 3 with fail
  generalize (W1.setCell ⟨w.heap.size + 1, 7, none⟩ (.int .i64 (-1))).setCell ⟨w.heap.size + 1, 8, none⟩ (.int .i64 (-1)) = W2 at *
  clear c7 c8 z7 z8 d1
  go_upto_block 0 with fail
  go_cut [7] (fun iv wx => ∃ (j : Nat), iv = .int .i64 (j : Nat) ∧ AtP s j (flg s.data.toList fl0).2 ∧ Dst w (pieceV 2 ⟨#[]⟩ (flg s.data.toList fl0).1 (-1) 0 nb0 nb0 ix0) wx)
  case first =>
    as_aux_lemma =>
      go_wp2_with fail
      go_loopg [7] s.size (fun g iv wr => ∃ (j : Nat) (r : Bs) (f : Fl), iv = .int .i64 (j : Nat) ∧ r.length = g ∧ AtP s j r ∧ Hid (flg r f = flg s.data.toList fl0) ∧ Dst w (pieceV 2 ⟨#[]⟩ f (-1) 0 nb0 nb0 ix0) wr)
      case atStart => exact ⟨0, s.data.toList, fl0, rfl, list_len s, hA, rfl, d2⟩
      case round =>
        obtain ⟨j, r, f, rfl, hg, hj, HF, dr⟩ := hrel
        have hje := hj.e
        have hjI : (j : Int) ≤ 2000 := by omega
        clear d2 hA
        cases r with
        | nil =>
          have hI : ¬ (j : Int) < s.size := by simp at hje; omega
          have hfin : flg s.data.toList fl0 = (f, []) := HF.out.symm
          clear HF
          go_wp2
          go_meet
          rw [hfin]
          exact ⟨j, rfl, hj, dr⟩
        | cons x t =>
          obtain ⟨hi, hb⟩ := hj.byte
          have hI : (j : Int) < s.size := by omega
          have hx : (s[j]'hi).toNat = x.toNat := by rw [hb]
          have hj1 := hj.step
          have hgt : t.length = gk - 1 := by simp at hg; omega
          have hg1 : 1 ≤ gk := by simp at hg; omega
          clear hb hje
          by_cases h43 : x.toNat = 43
          · have HF2 : Hid (flg t ⟨true, f.m, f.s, f.b, f.z⟩ = flg s.data.toList fl0) := by
              show _ = _
              rw [← HF.out]
              conv => rhs; unfold flg
              rw [if_pos h43]
            have dn := dr.set 2 (by simp [pieceV]) (.bool true)
            have cc := dr.p.c 2 _ rfl
            have zz := dr.p.z 2
            rw [h43] at hx
            clear HF hj h43 
            go_wp2
            go_roundg (gk - 1)
            case measure => omega
            case rel => exact ⟨j + 1, t, ⟨true, f.m, f.s, f.b, f.z⟩, by go_num, hgt, hj1, HF2, dn⟩
          · skip
            by_cases h45 : x.toNat = 45
            · have HF2 : Hid (flg t ⟨f.p, true, f.s, f.b, f.z⟩ = flg s.data.toList fl0) := by
                show _ = _
                rw [← HF.out]
                conv => rhs; unfold flg
                rw [if_neg h43, if_pos h45]
              have dn := dr.set 3 (by simp [pieceV]) (.bool true)
              have cc := dr.p.c 3 _ rfl
              have zz := dr.p.z 3
              rw [h45] at hx
              clear HF hj h45 h43
              go_wp2
              go_roundg (gk - 1)
              case measure => omega
              case rel => exact ⟨j + 1, t, ⟨f.p, true, f.s, f.b, f.z⟩, by go_num, hgt, hj1, HF2, dn⟩
            · skip
              by_cases h35 : x.toNat = 35
              · have HF2 : Hid (flg t ⟨f.p, f.m, true, f.b, f.z⟩ = flg s.data.toList fl0) := by
                  show _ = _
                  rw [← HF.out]
                  conv => rhs; unfold flg
                  rw [if_neg h43, if_neg h45, if_pos h35]
                have dn := dr.set 4 (by simp [pieceV]) (.bool true)
                have cc := dr.p.c 4 _ rfl
                have zz := dr.p.z 4
                rw [h35] at hx
                clear HF hj h35 h43 h45
                go_wp2
                go_roundg (gk - 1)
                case measure => omega
                case rel => exact ⟨j + 1, t, ⟨f.p, f.m, true, f.b, f.z⟩, by go_num, hgt, hj1, HF2, dn⟩
              · skip
                by_cases h32 : x.toNat = 32
                · have HF2 : Hid (flg t ⟨f.p, f.m, f.s, true, f.z⟩ = flg s.data.toList fl0) := by
                    show _ = _
                    rw [← HF.out]
                    conv => rhs; unfold flg
                    rw [if_neg h43, if_neg h45, if_neg h35, if_pos h32]
                  have dn := dr.set 5 (by simp [pieceV]) (.bool true)
                  have cc := dr.p.c 5 _ rfl
                  have zz := dr.p.z 5
                  rw [h32] at hx
                  clear HF hj h32 h43 h45 h35
                  go_wp2
                  go_roundg (gk - 1)
                  case measure => omega
                  case rel => exact ⟨j + 1, t, ⟨f.p, f.m, f.s, true, f.z⟩, by go_num, hgt, hj1, HF2, dn⟩
                · skip
                  by_cases h48 : x.toNat = 48
                  · have HF2 : Hid (flg t ⟨f.p, f.m, f.s, f.b, true⟩ = flg s.data.toList fl0) := by
                      show _ = _
                      rw [← HF.out]
                      conv => rhs; unfold flg
                      rw [if_neg h43, if_neg h45, if_neg h35, if_neg h32, if_pos h48]
                    have dn := dr.set 6 (by simp [pieceV]) (.bool true)
                    have cc := dr.p.c 6 _ rfl
                    have zz := dr.p.z 6
                    rw [h48] at hx
                    clear HF hj h48 h43 h45 h35 h32
                    go_wp2
                    go_roundg (gk - 1)
                    case measure => omega
                    case rel => exact ⟨j + 1, t, ⟨f.p, f.m, f.s, f.b, true⟩, by go_num, hgt, hj1, HF2, dn⟩
                  · skip
                    have hfin : flg s.data.toList fl0 = (f, x :: t) := by
                      rw [← HF.out]
                      conv => lhs; unfold flg
                      rw [if_neg h43, if_neg h45, if_neg h35, if_neg h32, if_neg h48]
                    have b43 : ((x.toNat : Int) == 43) = false := by simp; omega
                    have b45 : ((x.toNat : Int) == 45) = false := by simp; omega
                    have b35 : ((x.toNat : Int) == 35) = false := by simp; omega
                    have b32 : ((x.toNat : Int) == 32) = false := by simp; omega
                    have b48 : ((x.toNat : Int) == 48) = false := by simp; omega
                    clear HF h43 h45 h35 h32 h48
                    go_wp2
                    go_meet
                    rw [hfin]
                    exact ⟨j, rfl, hj, dr⟩
  case rest =>
    obtain ⟨i1, rfl, h1, d3⟩ := hcut
    clear d2
    obtain ⟨F, l1, hfl⟩ : ∃ F l1, flg s.data.toList fl0 = (F, l1) := ⟨_, _, rfl⟩
    rw [hfl] at h1 d3
    dsimp only at h1 d3
    have HFL : Hid (flg s.data.toList fl0 = (F, l1)) := hfl
    clear hfl
    obtain ⟨x0, l2, i2, th, HX0, h2, HT0, HT1, hI⟩ := tindex_nm h1 hs
    go_upto_region 20 with (go_at_call 17; refine (hI _).mono ?_; rintro e w3 ⟨rfl, b3⟩)
    clear hI
    have d4 := d3.up b3
    have sB : Ds w (pieceV 2 ⟨#[]⟩ F (-1) 0 nb0 nb0 ix0) w3.heap.size x0 (.slice none 0 0) [] (w3.alloc (.cells #[.int .i64 (x0.k : Nat), .int .i64 (x0.n : Nat)] 30)) :=
      ⟨d4.up ((Below.refl _ _).alloc (Nat.le_refl _) _), d4.p.b, Bx.new _ [_, _] _, World.ownsRow_nil _ _ _ _⟩
    clear d3 d4 b3
    generalize w3.alloc (.cells #[.int .i64 (x0.k : Nat), .int .i64 (x0.n : Nat)] 30) = W3 at *
    generalize w3.heap.size = B at *
    go_upto_block 3 with fail
    go_cut [6, 7, 10] (fun v6 v7 v10 wx => ∃ (wr te : Bool) (j : Nat) (l3 : Bs) (n3 : Nb) (a3 : Ix), v6 = .bool wr ∧ v7 = .int .i64 (j : Nat) ∧ v10 = .bool te ∧ AtP s j l3 ∧ Hid (wdh l1 = (n3, a3, l3)) ∧ Ds w (pieceV 2 ⟨#[]⟩ F (-1) 0 n3 nb0 ix0) B x0 (.slice none 0 0) [] wx ∧ Hid (te = false → wr = false ∧ a3 = ix0) ∧ Hid (te = true → x0.k ≠ 0 ∧ (wr = true → a3 = ix2) ∧ (wr = false → a3 = x0)))
    case first =>
      as_aux_lemma =>
        have h2e := h2.e
        have hi2 : (i2 : Int) ≤ 2000 := by omega
        have k42 : ∀ w, Calls Try.prog 18 #[.string s, .int .i64 (i2 : Nat), .int .u8 42] w fun e w' => e = .returned (.bool (decide (hd l2 = 42))) ∧ w' = w := fun w => tis_any h2 (by omega) 42 (by omega) w
        have kdg := fun w => tdigit_any h2 (by omega) w
        have c0 := sB.x.c 0 _ rfl
        have c1 := sB.x.c 1 _ rfl
        have c10 := sB.d.p.c 10 _ rfl
        have c11 := sB.d.p.c 11 _ rfl
        have c12 := sB.d.p.c 12 _ rfl
        have c13 := sB.d.p.c 13 _ rfl
        have zp := sB.d.p.z
        have HXa : Hid (wdh l1 = (if hd l2 = 42 then (⟨2, 0, x0⟩, ix0, l2.tail) else if 49 ≤ hd l2 ∧ hd l2 ≤ 57 then (⟨1, wN (dgs l2), ix0⟩, spl x0, aft l2) else (nb0, x0, l2))) := by
          show _ = _
          unfold wdh
          rw [HX0.out]
        by_cases hst : hd l2 = 42
        · have HW : Hid (wdh l1 = (⟨2, 0, x0⟩, ix0, l2.tail)) := by
            show _ = _
            rw [HXa.out, if_pos hst]
          have hne : l2 ≠ [] := by rintro rfl; simp [hd] at hst
          have h3 := h2.tail hne
          rw [decide_eq_true hst] at k42
          clear hst hne HXa kdg
          go_wp2_with (go_at_call 18; refine (k42 _).mono ?_; rintro e w9 ⟨rfl, hw9⟩; subst w9)
          go_meet
          exact ⟨false, false, i2 + 1, l2.tail, ⟨2, 0, x0⟩, ix0, rfl, by go_num, rfl, h3, HW, sB.setW ⟨2, 0, x0⟩, fun _ => ⟨rfl, rfl⟩, fun h => by cases h⟩
        · rw [decide_eq_false hst] at k42
          by_cases hdg : 49 ≤ hd l2 ∧ hd l2 ≤ 57
          · have HW : Hid (wdh l1 = (⟨1, wN (dgs l2), ix0⟩, spl x0, aft l2)) := by
              show _ = _
              rw [HXa.out, if_neg hst, if_pos hdg]
            obtain ⟨i3, D, hi3, h3, hD, -, kr, kv⟩ := tnum_nm h2 hs
            have h3e := h3.e
            have hi3I : (i2 : Int) ≤ i3 := by omega
            have hi3s : (i3 : Int) ≤ s.size := by omega
            rw [decide_eq_true (show 48 ≤ hd l2 ∧ hd l2 ≤ 57 from ⟨by omega, hdg.2⟩)] at kdg
            have hR2 : Hid (th = true → x0.k ≠ 0 ∧ (th = true → spl x0 = ix2) ∧ (th = false → spl x0 = x0)) := by
              intro h
              have hk := HT1.out h
              exact ⟨hk, fun _ => by unfold spl; rw [if_neg hk], fun h' => by rw [h] at h'; cases h'⟩
            have hR1 : Hid (th = false → th = false ∧ spl x0 = ix0) := by
              intro h
              refine ⟨h, ?_⟩
              rw [HT0.out h]
              rfl
            cases l2 with
            | nil => simp [hd] at hdg
            | cons y t =>
              obtain ⟨hi, hb⟩ := h2.byte
              have hI : (i2 : Int) < s.size := by omega
              have hx : (s[i2]'hi).toNat = y.toNat := by rw [hb]
              have hy : ((y.toNat : Int) != 48) = true := by
                have h49 : 49 ≤ y.toNat := hdg.1
                simp; omega
              generalize wN (dgs (y :: t)) = wn at *
              clear hst hdg HXa hb
              go_wp2_with (first
                | (go_at_call 18; refine (k42 _).mono ?_; rintro e w9 ⟨rfl, hw9⟩; subst w9)
                | (go_at_call 19; refine (kdg _).mono ?_; rintro e w9 ⟨rfl, hw9⟩; subst w9)
                | (go_at_call 20; refine (kr _).mono ?_; rintro e w9 ⟨rfl, hw9⟩; subst w9)
                | (go_at_call 21; refine (kv _).mono ?_; rintro e w9 ⟨rfl, hw9⟩; subst w9))
              go_meet
              exact ⟨th, th, i3, aft (y :: t), ⟨1, wn, ix0⟩, spl x0, rfl, rfl, rfl, h3, HW, sB.setW ⟨1, wn, ix0⟩, hR1, hR2⟩
          · have HW : Hid (wdh l1 = (nb0, x0, l2)) := by
              show _ = _
              rw [HXa.out, if_neg hst, if_neg hdg]
            by_cases h48 : hd l2 = 48
            · rw [decide_eq_true (show 48 ≤ hd l2 ∧ hd l2 ≤ 57 from ⟨by omega, by omega⟩)] at kdg
              cases l2 with
              | nil => simp [hd] at h48
              | cons y t =>
                obtain ⟨hi, hb⟩ := h2.byte
                have hI : (i2 : Int) < s.size := by omega
                have hx : (s[i2]'hi).toNat = 48 := by rw [hb]; exact h48
                clear hst hdg HXa hb h48
                go_wp2_with (first
                  | (go_at_call 18; refine (k42 _).mono ?_; rintro e w9 ⟨rfl, hw9⟩; subst w9)
                  | (go_at_call 19; refine (kdg _).mono ?_; rintro e w9 ⟨rfl, hw9⟩; subst w9))
                go_meet
                exact ⟨false, th, i2, y :: t, nb0, x0, rfl, rfl, rfl, h2, HW, sB, (fun h => ⟨rfl, HT0.out h⟩), (fun h => ⟨HT1.out h, (fun h' => by cases h'), fun _ => rfl⟩)⟩
            · rw [decide_eq_false (show ¬ (48 ≤ hd l2 ∧ hd l2 ≤ 57) from fun h => hdg ⟨by omega, h.2⟩)] at kdg
              clear hst hdg HXa h48
              go_wp2_with (first
                | (go_at_call 18; refine (k42 _).mono ?_; rintro e w9 ⟨rfl, hw9⟩; subst w9)
                | (go_at_call 19; refine (kdg _).mono ?_; rintro e w9 ⟨rfl, hw9⟩; subst w9))
              go_meet
              exact ⟨false, th, i2, l2, nb0, x0, rfl, rfl, rfl, h2, HW, sB, (fun h => ⟨rfl, HT0.out h⟩), (fun h => ⟨HT1.out h, (fun h' => by cases h'), fun _ => rfl⟩)⟩
    case rest =>
    obtain ⟨wr, te, i3, l3, n3, a3, rfl, rfl, rfl, h3, HW, s3, HR1, HR2⟩ := hcut
    clear sB HT0 HT1 HX0 h2
    go_upto_if 119 with fail
    have x0c := s3.x.c 0 _ rfl
    have x1c := s3.x.c 1 _ rfl
    go_cut [5] (fun v5 wx => ∃ (ls : List Ix) (ao : Option Addr) (ca : Nat), v5 = .slice ao ls.length ca ∧ ls.length ≤ 1 ∧ Ds w (pieceV 2 ⟨#[]⟩ F (-1) 0 n3 nb0 ix0) B x0 (.slice ao ls.length ca) ls wx ∧ Hid (InvI ls wr (nz a3)))
    case first =>
      as_aux_lemma =>
        cases te with
        | false =>
          obtain ⟨rfl, rfl⟩ := HR1.out rfl
          clear HR1 HR2
          go_wp2
          go_meet
          exact ⟨[], none, 0, rfl, by simp, s3, ⟨rfl, (fun _ => rfl), (fun h => by cases h)⟩⟩
        | true =>
          have HK : Hid (x0.k ≠ 0 ∧ (wr = true → a3 = ix2) ∧ (wr = false → a3 = x0)) := HR2.out rfl
          clear HR1 HR2
          go_wp2_with (at_builtin; refine wpl_appI rfl _ _ rfl s3 x0 rfl rfl rfl (by simp) ?_; rintro v4 w4 ⟨ao, ca, rfl⟩ s4)
          go_meet
          obtain ⟨hk, e1, e2⟩ := HK.out
          refine ⟨[x0], ao, ca, rfl, by simp, s4, ?_⟩
          cases wr with
          | false =>
            have e3 := e2 rfl
            subst e3
            refine ⟨?_, fun _ => ?_, fun h => by cases h⟩
            · unfold nz; rw [if_neg hk]
            · unfold nz; rw [if_neg hk]
          | true =>
            have e3 := e1 rfl
            subst e3
            exact ⟨rfl, (fun h => by cases h), fun _ => (List.mem_singleton.2 rfl : ix2 ∈ [ix2])⟩
    case rest =>
    obtain ⟨ls, ao, ca, rfl, hls, s4, HI⟩ := hcut
    have HRa : Hid (te = true → a3.k ≠ 0) := by
      intro h
      obtain ⟨hk, e1, e2⟩ := HR2.out h
      cases wr with
      | false => rw [e2 rfl]; exact hk
      | true => rw [e1 rfl]; simp [ix2]
    have HRb : Hid (te = false → a3 = ix0 ∧ wr = false) := fun h => ⟨(HR1.out h).2, (HR1.out h).1⟩
    clear HR1 HR2 s3 x0c x1c
    have h3e := h3.e
    have hi3 : (i3 : Int) ≤ 2000 := by omega
    have k46 : ∀ w, Calls Try.prog 18 #[.string s, .int .i64 (i3 : Nat), .int .u8 46] w fun e w' => e = .returned (.bool (decide (hd l3 = 46))) ∧ w' = w := fun w => tis_any h3 (by omega) 46 (by omega) w
    obtain ⟨dot, hdot⟩ : ∃ dot : Bool, dot = decide (hd l3 = 46) := ⟨_, rfl⟩
    rw [← hdot] at k46
    have HD : Hid (dot = decide (hd l3 = 46)) := hdot
    clear hdot
    go_upto_if 126 with (go_at_call 18; refine (k46 _).mono ?_; rintro e w9 ⟨rfl, hw9⟩; subst w9)
    clear k46
    go_cut [5, 6, 7] (fun v5 v6 v7 wx => ∃ (ls : List Ix) (ao : Option Addr) (ca : Nat) (wr : Bool) (j : Nat) (l4 : Bs) (n4 : Nb) (a b x : Ix), v5 = .slice ao ls.length ca ∧ v6 = .bool wr ∧ v7 = .int .i64 (j : Nat) ∧ ls.length ≤ 2 ∧ AtP s j l4 ∧ Hid (mid l1 = (n3, a, n4, b, l4)) ∧ Ds w (pieceV 2 ⟨#[]⟩ F (-1) 0 n3 n4 ix0) B x (.slice ao ls.length ca) ls wx ∧ Hid (InvI ls wr (nz a ++ nz b)))
    case first =>
      as_aux_lemma =>
        cases dot with
        | false =>
          have HM : Hid (mid l1 = (n3, a3, nb0, ix0, l3)) := by
            show _ = _
            unfold mid
            rw [HW.out, if_neg (of_decide_eq_false HD.out.symm)]
          have HI2 : Hid (InvI ls wr (nz a3 ++ nz ix0)) := by
            show InvI _ _ _
            have e : nz a3 ++ nz ix0 = nz a3 := by simp [nz, ix0]
            rw [e]
            exact HI.out
          clear HD HRa HRb HI
          go_wp2
          go_meet
          exact ⟨ls, ao, ca, wr, i3, l3, nb0, a3, ix0, x0, rfl, rfl, rfl, by omega, h3, HM, s4, HI2⟩
        | true =>
          have hd46 : hd l3 = 46 := of_decide_eq_true HD.out.symm
          have hne : l3 ≠ [] := by rintro rfl; simp [hd] at hd46
          have h4 := h3.tail hne
          have HM : Hid (mid l1 = (n3, spl a3, (prc l3.tail).1, (prc l3.tail).2.1, (prc l3.tail).2.2)) := by
            show _ = _
            unfold mid
            rw [HW.out, if_pos hd46]
          obtain ⟨x1, l5, i5, t1, HX1, h5, HT2, HT3, hI1⟩ := tindex_nm h4 hs
          have hI2 : ∀ w, Calls Try.prog 17 #[.string s, .int .i64 ((i3 : Int) + 1)] w fun e w' => e = .returned (.tuple #[.agg #[.int .i64 (x1.k : Nat), .int .i64 (x1.n : Nat)], .int .i64 (i5 : Nat), .bool t1]) ∧ Below w.heap.size w w' := fun w => hI1 w
          clear hI1
          have HP : Hid (prc l3.tail = if hd l5 = 42 then (⟨2, 0, x1⟩, ix0, l5.tail) else (⟨1, wN (dgs l5), ix0⟩, (if dgs l5 = [] then x1 else spl x1), aft l5)) := by
            show _ = _
            unfold prc
            rw [HX1.out]
          -- wrong, so far
          obtain ⟨w1, hw1⟩ : ∃ w1 : Bool, w1 = (wr || te) := ⟨_, rfl⟩
          have HI1 : Hid (InvI ls w1 (nz (spl a3))) := by
            show InvI _ _ _
            have hi0 := HI.out
            cases te with
            | false =>
              obtain ⟨rfl, rfl⟩ := HRb.out rfl
              rw [hw1]
              exact hi0
            | true =>
              have hk := HRa.out rfl
              have e : nz (spl a3) = [ix2] := by unfold spl; rw [if_neg hk]; rfl
              have hl : ls.length = 1 := by rw [hi0.n]; unfold nz; rw [if_neg hk]; rfl
              rw [hw1, e]
              exact ⟨hl, (fun h => by simp at h), fun _ => List.mem_singleton.2 rfl⟩
          have HW1 : Hid (w1 = (wr || te)) := hw1
          clear hw1 hd46 hne HI HRa HRb HD HX1
          go_upto_region 33 with fail
          go_cut [6] (fun v6 wx => v6 = .bool w1 ∧ Ds w (pieceV 2 ⟨#[]⟩ F (-1) 0 n3 nb0 ix0) B x0 (.slice ao ls.length ca) ls wx)
          case first =>
            as_aux_lemma =>
              cases wr with
              | false =>
                have HW2 : Hid (te = w1) := by show _ = _; have := HW1.out; simpa using this.symm
                clear HW1
                go_wp2
                go_meet
                exact ⟨congrArg _ HW2.out, s4⟩
              | true =>
                have HW2 : Hid (true = w1) := by show _ = _; have := HW1.out; simpa using this.symm
                clear HW1
                go_wp2
                go_meet
                exact ⟨congrArg _ HW2.out, s4⟩
          case rest =>
          obtain ⟨rfl, s6⟩ := hcut
          clear s4 HW1
          have h5e := h5.e
          have hi5 : (i5 : Int) ≤ 2000 := by omega
          have k42 : ∀ w, Calls Try.prog 18 #[.string s, .int .i64 (i5 : Nat), .int .u8 42] w fun e w' => e = .returned (.bool (decide (hd l5 = 42))) ∧ w' = w := fun w => tis_any h5 (by omega) 42 (by omega) w
          obtain ⟨st, hst⟩ : ∃ st : Bool, st = decide (hd l5 = 42) := ⟨_, rfl⟩
          rw [← hst] at k42
          have HS : Hid (st = decide (hd l5 = 42)) := hst
          clear hst
          go_upto_if 143 with (first
            | (go_at_call 17; refine (hI2 _).mono ?_; rintro e w7 ⟨rfl, b7⟩; have s7 := s6.up b7; have xc0 := s7.x.c 0 _ rfl; have xc1 := s7.x.c 1 _ rfl; have xz := s7.x.z)
            | (go_at_call 18; refine (k42 _).mono ?_; rintro e w9 ⟨rfl, hw9⟩; subst w9))
          have s8 := s7.setX x1
          clear s6 s7 xc0 xc1 xz hI2 k42 b7
          generalize (w7.setCell ⟨B, 0, none⟩ (.int .i64 (x1.k : Nat))).setCell ⟨B, 1, none⟩ (.int .i64 (x1.n : Nat)) = W8 at *
          go_cut [6, 7, 10] (fun v6 v7 v10 wx => ∃ (w2 t2 : Bool) (j : Nat) (l6 : Bs) (n4 : Nb) (b : Ix), v6 = .bool w2 ∧ v7 = .int .i64 (j : Nat) ∧ v10 = .bool t2 ∧ AtP s j l6 ∧ Hid (prc l3.tail = (n4, b, l6)) ∧ Ds w (pieceV 2 ⟨#[]⟩ F (-1) 0 n3 n4 ix0) B x1 (.slice ao ls.length ca) ls wx ∧ Hid (t2 = false → w2 = w1 ∧ b = ix0) ∧ Hid (t2 = true → b.k ≠ 0 ∧ (w2 = true → w1 = true ∨ b = ix2) ∧ (w2 = false → w1 = false ∧ b = x1)))
          case first =>
            as_aux_lemma =>
              have c0 := s8.x.c 0 _ rfl
              have c1 := s8.x.c 1 _ rfl
              have c14 := s8.d.p.c 14 _ rfl
              have c15 := s8.d.p.c 15 _ rfl
              have c16 := s8.d.p.c 16 _ rfl
              have c17 := s8.d.p.c 17 _ rfl
              have zp := s8.d.p.z
              cases st with
              | true =>
                have h42 : hd l5 = 42 := of_decide_eq_true HS.out.symm
                have hne : l5 ≠ [] := by rintro rfl; simp [hd] at h42
                have h6 := h5.tail hne
                have HP2 : Hid (prc l3.tail = (⟨2, 0, x1⟩, ix0, l5.tail)) := by show _ = _; rw [HP.out, if_pos h42]
                clear h42 hne HP HS HT2 HT3
                go_wp2
                go_meet
                exact ⟨w1, false, i5 + 1, l5.tail, ⟨2, 0, x1⟩, ix0, rfl, by go_num, rfl, h6, HP2, s8.setPr ⟨2, 0, x1⟩, (fun _ => ⟨rfl, rfl⟩), (fun h => by cases h)⟩
              | false =>
                have h42 : ¬ hd l5 = 42 := of_decide_eq_false HS.out.symm
                obtain ⟨i6, D, hi6, h6, hD, HE, kr, kv⟩ := tnum_nm h5 hs
                have h6e := h6.e
                have hi6I : (i5 : Int) ≤ i6 := by omega
                have hi6s : (i6 : Int) ≤ s.size := by omega
                have HP2 : Hid (prc l3.tail = (⟨1, wN (dgs l5), ix0⟩, (if dgs l5 = [] then x1 else spl x1), aft l5)) := by show _ = _; rw [HP.out, if_neg h42]
                generalize wN (dgs l5) = wn at *
                clear h42 HP HS
                have s9 := s8.setPr ⟨1, wn, ix0⟩
                go_upto_region 43 with (first
                  | (go_at_call 20; refine (kr _).mono ?_; rintro e w9 ⟨rfl, hw9⟩; subst w9)
                  | (go_at_call 21; refine (kv _).mono ?_; rintro e w9 ⟨rfl, hw9⟩; subst w9))
                clear kr kv c0 c1 c14 c15 c16 c17 zp s8 hD
                have fin : ∀ w2 : Bool, (t1 = true → dgs l5 ≠ [] → w2 = true) → (t1 = true → dgs l5 = [] → w2 = w1) → (t1 = false → w2 = w1) → Hid (t1 = false → w2 = w1 ∧ (if dgs l5 = [] then x1 else spl x1) = ix0) ∧ Hid (t1 = true → (if dgs l5 = [] then x1 else spl x1).k ≠ 0 ∧ (w2 = true → w1 = true ∨ (if dgs l5 = [] then x1 else spl x1) = ix2) ∧ (w2 = false → w1 = false ∧ (if dgs l5 = [] then x1 else spl x1) = x1)) := by
                  intro w2 q1 q2 q3
                  constructor
                  · intro h
                    refine ⟨q3 h, ?_⟩
                    rw [HT2.out h]
                    split <;> rfl
                  · intro h
                    have hk := HT3.out h
                    by_cases hdd : dgs l5 = []
                    · rw [if_pos hdd, q2 h hdd]
                      exact ⟨hk, (fun h => .inl h), (fun h => ⟨h, rfl⟩)⟩
                    · rw [if_neg hdd, q1 h hdd]
                      have e : spl x1 = ix2 := by unfold spl; rw [if_neg hk]
                      rw [e]
                      exact ⟨by simp [ix2], (fun _ => .inr rfl), (fun h => by cases h)⟩
                have FIN : Hid _ := fin
                clear fin
                by_cases hgt : i5 < i6
                · have hgI : (i5 : Int) < i6 := by omega
                  have HG : Hid (dgs l5 ≠ []) := by
                    show _ ≠ _
                    intro h
                    have := HE.out.2 h
                    omega
                  clear hgt HE HT2 HT3
                  cases w1 <;> cases t1
                  all_goals (go_wp2_with fail; go_meet)
                  · obtain ⟨f1, f2⟩ := FIN.out false (by simp) (by simp) (by simp); exact ⟨false, false, i6, aft l5, ⟨1, wn, ix0⟩, _, rfl, rfl, rfl, h6, HP2, s9, f1, f2⟩
                  · obtain ⟨f1, f2⟩ := FIN.out true (by simp) (fun _ h => absurd h HG.out) (by simp); exact ⟨true, true, i6, aft l5, ⟨1, wn, ix0⟩, _, rfl, rfl, rfl, h6, HP2, s9, f1, f2⟩
                  · obtain ⟨f1, f2⟩ := FIN.out true (by simp) (by simp) (by simp); exact ⟨true, false, i6, aft l5, ⟨1, wn, ix0⟩, _, rfl, rfl, rfl, h6, HP2, s9, f1, f2⟩
                  · obtain ⟨f1, f2⟩ := FIN.out true (by simp) (by simp) (by simp); exact ⟨true, true, i6, aft l5, ⟨1, wn, ix0⟩, _, rfl, rfl, rfl, h6, HP2, s9, f1, f2⟩
                · have hgI : ¬ (i5 : Int) < i6 := by omega
                  have HG : Hid (dgs l5 = []) := HE.out.1 (by omega)
                  clear hgt HE HT2 HT3
                  cases w1 <;> cases t1
                  all_goals (go_wp2_with fail; go_meet)
                  · obtain ⟨f1, f2⟩ := FIN.out false (by simp) (by simp) (by simp); exact ⟨false, false, i6, aft l5, ⟨1, wn, ix0⟩, _, rfl, rfl, rfl, h6, HP2, s9, f1, f2⟩
                  · obtain ⟨f1, f2⟩ := FIN.out false (fun _ h => absurd HG.out h) (by simp) (by simp); exact ⟨false, true, i6, aft l5, ⟨1, wn, ix0⟩, _, rfl, rfl, rfl, h6, HP2, s9, f1, f2⟩
                  · obtain ⟨f1, f2⟩ := FIN.out true (by simp) (by simp) (by simp); exact ⟨true, false, i6, aft l5, ⟨1, wn, ix0⟩, _, rfl, rfl, rfl, h6, HP2, s9, f1, f2⟩
                  · obtain ⟨f1, f2⟩ := FIN.out true (by simp) (by simp) (by simp); exact ⟨true, true, i6, aft l5, ⟨1, wn, ix0⟩, _, rfl, rfl, rfl, h6, HP2, s9, f1, f2⟩
          case rest =>
          obtain ⟨w2, t2, i6, l6, n4, b, rfl, rfl, rfl, h6, HP2, s9, HQ1, HQ2⟩ := hcut
          have HM2 : Hid (mid l1 = (n3, spl a3, n4, b, l6)) := by show _ = _; rw [HM.out, HP2.out]
          have c0 := s9.x.c 0 _ rfl
          have c1 := s9.x.c 1 _ rfl
          clear HM HP HP2 s8 HT2 HT3 HS
          cases t2 with
          | false =>
            obtain ⟨rfl, rfl⟩ := HQ1.out rfl
            clear HQ1 HQ2
            go_wp2
            go_meet
            refine ⟨ls, ao, ca, w2, i6, l6, n4, spl a3, ix0, x1, rfl, rfl, rfl, by omega, h6, HM2, s9, ?_⟩
            have e : nz (spl a3) ++ nz ix0 = nz (spl a3) := by simp [nz, ix0]
            show InvI _ _ _
            rw [e]
            exact HI1.out
          | true =>
            have HK : Hid (b.k ≠ 0 ∧ (w2 = true → w1 = true ∨ b = ix2) ∧ (w2 = false → w1 = false ∧ b = x1)) := HQ2.out rfl
            clear HQ1 HQ2
            go_wp2_with (at_builtin; refine wpl_appI rfl _ _ rfl s9 x1 rfl rfl rfl (by omega) ?_; rintro v4 w4 ⟨ao2, ca2, rfl⟩ s10)
            go_meet
            refine ⟨ls ++ [x1], ao2, ca2, w2, i6, l6, n4, spl a3, b, x1, by rw [List.length_append]; rfl, rfl, rfl, by rw [List.length_append]; exact Nat.succ_le_succ hls, h6, HM2, by rw [List.length_append]; exact s10, ?_⟩
            obtain ⟨hk, e1, e2⟩ := HK.out
            have e : nz b = [b] := by unfold nz; rw [if_neg hk]
            have hi1 := HI1.out
            show InvI _ _ _
            rw [e]
            refine ⟨by simp [hi1.n], ?_, ?_⟩
            · intro h
              obtain ⟨q1, q2⟩ := e2 h
              rw [hi1.f q1, q2]
            · intro h
              rcases e1 h with q | q
              · exact List.mem_append.2 (.inl (hi1.t q))
              · exact List.mem_append.2 (.inr (by rw [q]; exact List.mem_singleton.2 rfl))
    case rest =>
    obtain ⟨ls, ao, ca, wr, i4, l4, n4, a4, b4, x4, rfl, rfl, rfl, hls, h4, HM, s5, HI⟩ := hcut
    clear HW HRa HRb HD s4
    obtain ⟨x6, l7, i7, t3, HX3, h7, HT4, HT5, hI3⟩ := tindex_nm h4 hs
    go_upto_if 182 with (go_at_call 17; refine (hI3 _).mono ?_; rintro e w7 ⟨rfl, b7⟩; have s6 := s5.up b7; have xc0 := s6.x.c 0 _ rfl; have xc1 := s6.x.c 1 _ rfl; have xz := s6.x.z)
    have s8 := s6.setX x6
    clear s5 s6 xc0 xc1 xz hI3 b7
    generalize (w7.setCell ⟨B, 0, none⟩ (.int .i64 (x6.k : Nat))).setCell ⟨B, 1, none⟩ (.int .i64 (x6.n : Nat)) = W8 at *
    go_cut [5] (fun v5 wx => ∃ (ls : List Ix) (ao : Option Addr) (ca : Nat), v5 = .slice ao ls.length ca ∧ ls.length ≤ 3 ∧ Ds w (pieceV 2 ⟨#[]⟩ F (-1) 0 n3 n4 ix0) B x6 (.slice ao ls.length ca) ls wx ∧ Hid (InvI ls wr (nz a4 ++ nz b4 ++ nz x6)))
    case first =>
      as_aux_lemma =>
        have c0 := s8.x.c 0 _ rfl
        have c1 := s8.x.c 1 _ rfl
        cases t3 with
        | false =>
          have HE : Hid (x6 = ix0) := HT4.out rfl
          clear HT4 HT5
          go_wp2
          go_meet
          refine ⟨ls, ao, ca, rfl, by omega, s8, ?_⟩
          show InvI _ _ _
          have e : nz x6 = [] := by rw [HE.out]; rfl
          rw [e, List.append_nil]
          exact HI.out
        | true =>
          have HE : Hid (x6.k ≠ 0) := HT5.out rfl
          clear HT4 HT5
          go_wp2_with (at_builtin; refine wpl_appI rfl _ _ rfl s8 x6 rfl rfl rfl (by omega) ?_; rintro v4 w4 ⟨ao2, ca2, rfl⟩ s10)
          go_meet
          refine ⟨ls ++ [x6], ao2, ca2, by rw [List.length_append]; rfl, by rw [List.length_append]; exact Nat.succ_le_succ hls, by rw [List.length_append]; exact s10, ?_⟩
          show InvI _ _ _
          have e : nz x6 = [x6] := by unfold nz; rw [if_neg HE.out]
          have hi1 := HI.out
          rw [e]
          refine ⟨by rw [List.length_append, List.length_append, hi1.n], ?_, ?_⟩
          · intro h
            rw [hi1.f h]
          · intro h
            exact List.mem_append.2 (.inl (hi1.t h))
    case rest =>
    obtain ⟨ls2, ao2, ca2, rfl, hl2, s9, HI2⟩ := hcut
    have HA : Hid (sgl a4 b4 x6 = if 1 < ls2.length ∨ wr = true then ix2 else ls2.headD ix0) := inv_arg HI2.out
    clear HI HI2 s8 HT4 HT5
    go_upto_if 189 with fail
    go_cut [190] (fun _ wx => ∃ y : Ix, Hid (y = if ls2.length = 1 then ls2.headD ix0 else ix0) ∧ Ds w (pieceV 2 ⟨#[]⟩ F (-1) 0 n3 n4 y) B x6 (.slice ao2 ls2.length ca2) ls2 wx)
    case first =>
      as_aux_lemma =>
        by_cases hl1 : ls2.length = 1
        · obtain ⟨y, hy⟩ : ∃ y, ls2 = [y] := List.length_eq_one_iff.1 hl1
          have ho := s9.o
          rw [hl1, hy] at ho
          obtain ⟨g, hg0, hg1, hg2, hg3⟩ := own_cell9 ho (by omega)
          have g0 := hg3 0 _ rfl
          have g1 := hg3 1 _ rfl
          have c18 := s9.d.p.c 18 _ rfl
          have c19 := s9.d.p.c 19 _ rfl
          have zp := s9.d.p.z
          have HY : Hid (y = if ls2.length = 1 then ls2.headD ix0 else ix0) := by show _ = _; rw [if_pos hl1, hy]; rfl
          subst hg0
          clear ho hg1 hg2 hg3 hy
          have hlI : ((ls2.length : Int) == 1) = true := by simp; omega
          generalize ls2.length = LN at *
          subst hl1
          go_wp2
          go_meet
          exact ⟨y, HY, s9.setA y⟩
        · have hb : ((ls2.length : Int) == 1) = false := by simp; omega
          have HY : Hid (ix0 = if ls2.length = 1 then ls2.headD ix0 else ix0) := by show _ = _; rw [if_neg hl1]
          clear hl1
          go_wp2
          go_meet
          exact ⟨ix0, HY, s9⟩
    case rest =>
    obtain ⟨y, HY, s10⟩ := hcut
    clear s9
    go_upto_region 53 with fail
    go_cut [199] (fun v wx => ∃ bad : Bool, v = .bool bad ∧ Hid (bad = decide (1 < ls2.length ∨ wr = true)) ∧ Ds w (pieceV 2 ⟨#[]⟩ F (-1) 0 n3 n4 y) B x6 (.slice ao2 ls2.length ca2) ls2 wx)
    case first =>
      as_aux_lemma =>
        by_cases hl1 : 1 < ls2.length
        · have hI : (1 : Int) < (ls2.length : Int) := by omega
          have HB : Hid (true = decide (1 < ls2.length ∨ wr = true)) := (decide_eq_true (.inl hl1)).symm
          clear hl1
          go_wp2
          go_meet
          exact ⟨true, rfl, HB, s10⟩
        · have hI : ¬ (1 : Int) < (ls2.length : Int) := by omega
          have HB : Hid (wr = decide (1 < ls2.length ∨ wr = true)) := by
            show _ = _
            cases wr with
            | true => exact (decide_eq_true (.inr rfl)).symm
            | false => exact (decide_eq_false (by simp [hl1])).symm
          clear hl1
          go_wp2
          go_meet
          exact ⟨wr, rfl, HB, s10⟩
    case rest =>
    obtain ⟨bad, rfl, HB, s11⟩ := hcut
    clear s10
    obtain ⟨ya, hya⟩ : ∃ ya, ya = sgl a4 b4 x6 := ⟨_, rfl⟩
    have HYA : Hid (ya = sgl a4 b4 x6) := hya
    rw [← hya] at HA
    clear hya
    go_upto_if 199 with fail
    go_cut [200] (fun _ wx => Ds w (pieceV 2 ⟨#[]⟩ F (-1) 0 n3 n4 ya) B x6 (.slice ao2 ls2.length ca2) ls2 wx)
    case first =>
      as_aux_lemma =>
        cases bad with
        | true =>
          have HE : Hid (ya = ix2) := by show _ = _; rw [HA.out, if_pos (of_decide_eq_true HB.out.symm)]
          have c18 := s11.d.p.c 18 _ rfl
          have c19 := s11.d.p.c 19 _ rfl
          have zp := s11.d.p.z
          clear HA HB HY
          go_wp2
          go_meet
          rw [HE.out]
          exact s11.setA ix2
        | false =>
          have HE : Hid (ya = y) := by
            show _ = _
            have hn := of_decide_eq_false HB.out.symm
            rw [HA.out, if_neg hn, HY.out]
            split
            · rfl
            · have : ls2 = [] := List.eq_nil_of_length_eq_zero (by have := fun h => hn (.inl h); omega)
              rw [this]; rfl
          clear HA HB HY
          go_wp2
          go_meet
          rw [HE.out]
          exact s11
    case rest =>
    have s12 := hcut
    clear hcut s11 HA HB HY

    have c0 := s12.d.p.c 0 _ rfl
    have c1 := s12.d.p.c 1 _ rfl
    have c9 := s12.d.p.c 9 _ rfl
    have zp := s12.d.p.z
    have h7e := h7.e
    have hi7 : (i7 : Int) ≤ 2000 := by omega
    have hi7s : (i7 : Int) ≤ s.size := by omega
    by_cases hne : l7 = []
    · subst hne
      have hI : ¬ (i7 : Int) < s.size := by simp at h7e; omega
      have HN : Hid (nxt [] = (0, 0)) := rfl
      obtain ⟨T, hT⟩ : ∃ T, (⟨#[37]⟩ : ByteArray) ++ s.extract 0 i7 = T := ⟨_, rfl⟩
      have HT : Hid (T = ba (37 :: s.data.toList.take i7)) := by show _ = _; rw [← hT, txt_nm]
      have sF : Ds w (pieceV 2 T F (-1) 0 n3 n4 ya) B x6 (.slice ao2 ls2.length ca2) ls2 (wc.setCell ⟨w.heap.size + 1, 1, none⟩ (.string T)) := s12.setP 1 (by simp [pieceV]) (.string T)
      go_upto_region 61 with fail
      clear s12 c0 c1 c9 zp
      generalize wc.setCell ⟨w.heap.size + 1, 1, none⟩ (.string T) = W9 at *
      obtain ⟨fA, fB⟩ := sF.d.fin (us := pieceV 2 T F (-1) 0 n3 n4 ya) rfl
      obtain ⟨pvv, hpv⟩ : ∃ pvv, Value.agg (pieceV 2 T F (-1) 0 n3 n4 ya).toArray = pvv := ⟨_, rfl⟩
      have HPV : Hid (pvv = Value.agg (pieceV 2 T F (-1) 0 n3 n4 ya).toArray) := hpv.symm
      rename_i K0 hK0
      refine wp_region_lit ?_
      refine wpl_load20d rfl (.tmp 4) rfl rfl sF.d.p rfl ?_
      rw [hpv]
      clear hpv
      refine wpl_moveT rfl _ rfl ?_
      refine wpl_store20d rfl (.tmp 2) (.tmp 226) rfl (us := pieceV 2 T F (-1) 0 n3 n4 ya) rfl HPV.out sF.d.a rfl rfl (pv_oneT _ _ _ _ _ _ _ _) ?_
      generalize World.setCells W9 w.heap.size 0 (pieceV 2 T F (-1) 0 n3 n4 ya) = Wf at *
      refine wpl_assignT rfl _ rfl ?_
      refine wpList_nil ?_
      refine hK0 _ _ (wp_ret ?_)
      refine bodyPost_ret (res20d Try.results12 rfl fA rfl) rfl ?_
      obtain ⟨e1, e2⟩ := dir_nm HFL.out HM.out HX3.out HN.out
      have hz : s.size - (drest s.data.toList).length = i7 := by rw [e2]; simp at h7e ⊢; omega
      refine ⟨?_, fB⟩
      rw [e1, hz, ← HT.out, ← HYA.out]
      rfl
    · obtain ⟨D, c, n, b, hD, HN, hn1, hn2, hn3, kd⟩ := tdec_nm h7 hs hne
      have hl7 : 0 < l7.length := List.length_pos_iff.2 hne
      have hI : (i7 : Int) < s.size := by omega
      have hnI : (i7 : Int) + n ≤ s.size := by omega
      obtain ⟨T, hT⟩ : ∃ T, (⟨#[37]⟩ : ByteArray) ++ s.extract 0 (i7 + n) = T := ⟨_, rfl⟩
      have HT : Hid (T = ba (37 :: s.data.toList.take (i7 + n))) := by show _ = _; rw [← hT, txt_nm]
      clear c0 c1 c9 zp
      go_upto_region 57 with (go_at_call 22; refine (kd _).mono ?_; rintro e w9 ⟨rfl, b9⟩; have sC := s12.up b9; have c0 := sC.d.p.c 0 _ rfl; have c1 := sC.d.p.c 1 _ rfl; have c9 := sC.d.p.c 9 _ rfl; have zp := sC.d.p.z)
      have sF : Ds w (pieceV 1 T F (-1) c n3 n4 ya) B x6 (.slice ao2 ls2.length ca2) ls2 (((w9.setCell ⟨w.heap.size + 1, 0, none⟩ (.int .i64 1)).setCell ⟨w.heap.size + 1, 9, none⟩ (.int .i32 (c : Nat))).setCell ⟨w.heap.size + 1, 1, none⟩ (.string T)) := ((sC.setP 0 (by simp [pieceV]) (.int .i64 1)).setP 9 (by simp [pieceV]) (.int .i32 (c : Nat))).setP 1 (by simp [pieceV]) (.string T)
      clear s12 kd hD b9
      go_upto_region 61 with fail
      clear c0 c1 c9 zp sC
      generalize ((w9.setCell ⟨w.heap.size + 1, 0, none⟩ (.int .i64 1)).setCell ⟨w.heap.size + 1, 9, none⟩ (.int .i32 (c : Nat))).setCell ⟨w.heap.size + 1, 1, none⟩ (.string T) = W9 at *
      obtain ⟨fA, fB⟩ := sF.d.fin (us := pieceV 1 T F (-1) c n3 n4 ya) rfl
      obtain ⟨pvv, hpv⟩ : ∃ pvv, Value.agg (pieceV 1 T F (-1) c n3 n4 ya).toArray = pvv := ⟨_, rfl⟩
      have HPV : Hid (pvv = Value.agg (pieceV 1 T F (-1) c n3 n4 ya).toArray) := hpv.symm
      rename_i K0 hK0
      refine wp_region_lit ?_
      refine wpl_load20d rfl (.tmp 4) rfl rfl sF.d.p rfl ?_
      rw [hpv]
      clear hpv
      refine wpl_moveT rfl _ rfl ?_
      refine wpl_store20d rfl (.tmp 2) (.tmp 226) rfl (us := pieceV 1 T F (-1) c n3 n4 ya) rfl HPV.out sF.d.a rfl rfl (pv_oneT _ _ _ _ _ _ _ _) ?_
      generalize World.setCells W9 w.heap.size 0 (pieceV 1 T F (-1) c n3 n4 ya) = Wf at *
      refine wpl_assignT rfl _ rfl ?_
      refine wpList_nil ?_
      refine hK0 _ _ (wp_ret ?_)
      refine bodyPost_ret (res20d Try.results12 rfl fA rfl) rfl ?_
      obtain ⟨e1, e2⟩ := dir_nm HFL.out HM.out HX3.out HN.out
      have hz : s.size - (drest s.data.toList).length = i7 + n := by rw [e2, List.length_drop]; omega
      refine ⟨?_, fB⟩
      rw [e1, hz, ← HT.out, ← HYA.out, if_neg (by omega)]
      rfl
end Go.Proofs.Ytpknjcdodnoibaa
