/- DDig, EDig, UTexts: these texts in one. -/
import Derived.Test.YtjalgdfnehgocaaGreatDoorPt2
import Derived.Deep.LoopGhost
import Derived.Test.YtjalgdfnehgocaaGreatDoorPt36
import Derived.Test.YtjalgdfnehgocaaGreatDoorPt37
namespace Go.Proofs.YtjalgdfnehgocaaGreatDoor
open Go.RowKit
set_option linter.unusedVariables false
theorem dig_small (n : Nat) (h : n < 16) : (ByteArray.mk #[48, 49, 50, 51, 52, 53, 54, 55, 56, 57, 97, 98, 99, 100, 101, 102]).extract n (n + 1) = ⟨#[hexB false n]⟩ := by
 have hd : ∀ n, n < 16 → (ByteArray.mk #[48, 49, 50, 51, 52, 53, 54, 55, 56, 57, 97, 98, 99, 100, 101, 102]).extract n (n + 1) = ⟨#[hexB false n]⟩ := by decide +kernel
 exact hd n h
theorem dig_great (n : Nat) (h : n < 16) : (ByteArray.mk #[48, 49, 50, 51, 52, 53, 54, 55, 56, 57, 65, 66, 67, 68, 69, 70]).extract n (n + 1) = ⟨#[hexB true n]⟩ := by
 have hd : ∀ n, n < 16 → (ByteArray.mk #[48, 49, 50, 51, 52, 53, 54, 55, 56, 57, 65, 66, 67, 68, 69, 70]).extract n (n + 1) = ⟨#[hexB true n]⟩ := by decide +kernel
 exact hd n h
set_option maxRecDepth 1000000 in
set_option maxHeartbeats 400000 in
theorem digit_any (n : Nat) (g : Bool) (h : n < 16) (w : World) :
  Calls Tryz.prog 29 #[.int .i64 n, .bool g] w fun e w' => e = .returned (.string ⟨#[hexB g n]⟩) ∧ w' = w := by
 have h1 := dig_small n h
 have h2 := dig_great n h
 have hn : (n : Int) < 16 := by omega
 cases g with
 | true =>
   clear h1
   generalize (⟨#[hexB true n]⟩ : ByteArray) = r at *
   go_enter Tryz.func29, Tryz.ntmps29
   go_wp2
   go_ret
   exact ⟨rfl, rfl⟩
 | false =>
   clear h2
   generalize (⟨#[hexB false n]⟩ : ByteArray) = r at *
   go_enter Tryz.func29, Tryz.ntmps29
   go_wp2
   go_ret
   exact ⟨rfl, rfl⟩
end Go.Proofs.YtjalgdfnehgocaaGreatDoor
namespace Go.Proofs.YtjalgdfnehgocaaGreatDoor
open Go.RowKit
set_option linter.unusedVariables false
def eRel (b n q : Nat) (ds : List UInt8) : Prop := (ds = [] ∧ q = n) ∨ (ds ≠ [] ∧ digP false b q ++ ds = digS false b n)
theorem eRel_step (b n q : Nat) (ds : List UInt8) (hb : 2 ≤ b) (hq : q < 2 ^ 64) (h : eRel b n q ds) (hgo : ds = [] ∨ q ≠ 0) : eRel b n (q / b) (hexB false (q % b) :: ds) := by
 refine .inr ⟨by simp, ?_⟩
 rcases h with ⟨rfl, rfl⟩ | ⟨h1, h2⟩
 ·rfl
 ·rw [← h2, digP_step false b q hb (hgo.resolve_left h1) hq]
  simp
theorem eRel_len (b n q : Nat) (ds : List UInt8) (h : eRel b n q ds) : ds.length ≤ 65 := by
 rcases h with ⟨rfl, -⟩ | ⟨-, h⟩
 ·simp
 ·have h1 := digS_len false b n
  rw [← h, List.length_append] at h1
  omega
set_option maxRecDepth 1000000 in
set_option maxHeartbeats 800000 in
theorem edigits_16 (n : Nat) (w : World) (hn : n < 18446744073709551616) :
  Calls Tryz.prog 20 #[.int .u64 n, .int .i64 16] w fun e w' => e = .returned (.string (digT false 16 n)) ∧ w' = w := by
 go_enter Tryz.func20, Tryz.ntmps20
 go_wp2
 go_loopg [0, 5] (n + 1) (fun g nn s wr => wr = w ∧ ∃ (q : Nat) (u : ByteArray) (ds : List UInt8), nn = .int .u64 q ∧ s = .string u ∧ q + (1 - ds.length) ≤ g ∧ q ≤ n ∧ ds.length + q ≤ n + 1 ∧ u.size = ds.length ∧ Hid (u = ⟨ds.toArray⟩) ∧ Hid (eRel 16 n q ds))
 case atStart => exact ⟨rfl, n, ⟨#[]⟩, [], rfl, rfl, by simp, Nat.le_refl _, by simp, rfl, rfl, .inl ⟨rfl, rfl⟩⟩
 case round =>
  obtain ⟨rfl, q, u, ds, rfl, rfl, hg, hqn, hdn, hus, HU, HR⟩ := hrel
  by_cases hgo : u.size = 0 ∨ 0 < q
  ·have h16 : q % 16 < 16 := by omega
   have hdg : ∀ w, Calls Tryz.prog 29 #[.int .i64 ((q % 16 : Nat) : Int), .bool false] w fun e w' => e = .returned (.string ⟨#[hexB false (q % 16)]⟩) ∧ w' = w := fun w => digit_any (q % 16) false h16 w
   have hW : Hid (eRel 16 n (q / 16) (hexB false (q % 16) :: ds)) := eRel_step 16 n q ds (by omega) (by omega) HR.out (by rcases hgo with h | h; exact .inl (List.eq_nil_of_length_eq_zero (by omega)); exact .inr (by omega))
   have hcat : (⟨#[hexB false (q % 16)]⟩ : ByteArray) ++ u = ⟨(hexB false (q % 16) :: ds).toArray⟩ := by rw [HU.out]; exact ba_app [hexB false (q % 16)] ds
   obtain ⟨t, ht⟩ : ∃ t, (⟨#[hexB false (q % 16)]⟩ : ByteArray) = t := ⟨_, rfl⟩
   have htz : t.size = 1 := by rw [← ht]; rfl
   rw [ht] at hdg hcat
   obtain ⟨u2, hu2⟩ : ∃ u2, t ++ u = u2 := ⟨_, rfl⟩
   have HU2 : Hid (u2 = ⟨(hexB false (q % 16) :: ds).toArray⟩) := by rw [← hu2]; exact hcat
   have hz2 : u2.size = (hexB false (q % 16) :: ds).length := by rw [HU2.out]; simp [ByteArray.size]
   have hsum : ¬ 9223372036854775807 < t.size + u.size := by
    have := eRel_len 16 n q ds HR.out
    omega
   have hm1 : (q : Int) % 16 = ((q % 16 : Nat) : Int) := by omega
   have hm2 : (q : Int) / 16 = ((q / 16 : Nat) : Int) := by omega
   have hlen : q / 16 + (1 - (hexB false (q % 16) :: ds).length) ≤ gk - 1 ∧ 1 ≤ gk := by
    simp only [List.length_cons]
    rcases hgo with h | h <;> omega
   have hlen2 : (hexB false (q % 16) :: ds).length + q / 16 ≤ n + 1 := by
    simp only [List.length_cons]
    rcases hgo with h | h <;> omega
   clear ht hcat HU HR
   have hle : q / 16 ≤ q := Nat.div_le_self _ _
   generalize hexB false (q % 16) :: ds = ds2 at *
   generalize q % 16 = d at *
   generalize q / 16 = q2 at *
   by_cases hq : 0 < q
   ·have hq1 : 0 < (q : Int) := by omega
    go_wp2_with (go_at_call 29; refine (hdg _).mono ?_; rintro e w2 ⟨rfl, rfl⟩)
    go_roundg (gk - 1)
    case measure => omega
    case rel => exact ⟨rfl, q2, u2, ds2, rfl, rfl, hlen.1, by omega, hlen2, hz2, HU2, hW⟩
   ·have hq1 : ¬ 0 < (q : Int) := by omega
    have hq2 : decide (0 < q) = false := by simp; omega
    have hue : u.toList.isEmpty = true := empty_yes u (by omega)
    go_wp2_with (go_at_call 29; refine (hdg _).mono ?_; rintro e w2 ⟨rfl, rfl⟩)
    go_roundg (gk - 1)
    case measure => omega
    case rel => exact ⟨rfl, q2, u2, ds2, rfl, rfl, hlen.1, by omega, hlen2, hz2, HU2, hW⟩
  ·have hq1 : ¬ 0 < (q : Int) := by omega
   have hq2 : decide (0 < q) = false := by simp; omega
   have hue : u.toList.isEmpty = false := empty_no u (by omega)
   have HF : Hid (u = digT false 16 n) := by
    have hq0 : q = 0 := by omega
    rcases HR.out with ⟨h, -⟩ | ⟨-, h⟩
    ·rw [h, List.length_nil] at hus; omega
    ·rw [hq0, digP_zero] at h
     show u = digT false 16 n
     rw [HU.out]
     unfold digT
     rw [← h]; rfl
   go_wp2
   go_ret
   rw [HF.out]
   exact ⟨rfl, rfl⟩
theorem zero_run (k : Nat) (s : ByteArray) : (ByteArray.mk #[48]) ++ (run 48 k ++ s) = run 48 (k + 1) ++ s := by
 apply ByteArray.ext
 rw [ByteArray.data_append, ByteArray.data_append, ByteArray.data_append, ← Array.append_assoc]
 congr 1
 show #[48] ++ Array.replicate k (UInt8.ofNat 48) = Array.replicate (k + 1) (UInt8.ofNat 48)
 rw [Array.replicate_succ']
 rfl
set_option maxRecDepth 1000000 in
set_option maxHeartbeats 400000 in
theorem ezeros_any (s : ByteArray) (n : Int) (w : World) (hs : s.size ≤ 100000) (hn : n ≤ 1000) :
  Calls Tryz.prog 19 #[.string s, .int .i64 n] w fun e w' => e = .returned (.string (lenS s n)) ∧ w' = w := by
 go_enter Tryz.func19, Tryz.ntmps19
 go_wp2
 go_loopg [0] (wdt (n - (s.size : Nat))) (fun g t wr => wr = w ∧ ∃ (k : Nat) (u : ByteArray), t = .string u ∧ k + g = wdt (n - (s.size : Nat)) ∧ u.size = k + s.size ∧ Hid (u = run 48 k ++ s))
 case atStart =>
  refine ⟨rfl, 0, s, rfl, Nat.zero_add _, by omega, ?_⟩
  show s = run 48 0 ++ s
  apply ByteArray.ext
  rw [ByteArray.data_append]
  simp [run]
 case round =>
  obtain ⟨rfl, k, u, rfl, hkg, huz, HU⟩ := hrel
  have hwl := wdt_le (n - (s.size : Nat))
  by_cases hlt : (u.size : Int) < n
  ·have hk1 : 1 ≤ gk := by unfold wdt at hkg; omega
   have hsum : ¬ 9223372036854775807 < (ByteArray.mk #[48]).size + u.size := by
    have : (ByteArray.mk #[48]).size = 1 := rfl
    omega
   obtain ⟨u2, hu2⟩ : ∃ u2, (ByteArray.mk #[48]) ++ u = u2 := ⟨_, rfl⟩
   have HU2 : Hid (u2 = run 48 (k + 1) ++ s) := by rw [← hu2, HU.out]; exact zero_run k s
   have hz2 : u2.size = k + 1 + s.size := by rw [HU2.out, app_size, run_size]
   clear HU
   generalize wdt (n - (s.size : Nat)) = K at *
   go_wp2
   go_roundg (gk - 1)
   case measure => omega
   case rel => exact ⟨rfl, k + 1, u2, rfl, by omega, hz2, HU2⟩
  ·have HF : Hid (u = lenS s n) := by
    have hk0 : k = wdt (n - (s.size : Nat)) := by unfold wdt at hkg ⊢; omega
    show u = lenS s n
    rw [HU.out, hk0]; rfl
   clear hkg
   go_wp2
   go_ret
   rw [HF.out]
   exact ⟨rfl, rfl⟩
end Go.Proofs.YtjalgdfnehgocaaGreatDoor
namespace Go.Proofs.YtjalgdfnehgocaaGreatDoor
open Go.RowKit
set_option linter.unusedVariables false
set_option linter.unusedSimpArgs false
def D8 (W : World) (b : Nat) (k : Int) (u : ByteArray) : Prop := W.cell? ⟨b, 0, none⟩ = some (.int .i64 k) ∧ W.cell? ⟨b, 1, none⟩ = some (.string ⟨#[]⟩) ∧ W.cell? ⟨b, 2, none⟩ = some (.int .u64 0) ∧ W.cell? ⟨b, 3, none⟩ = some (.int .u64 0) ∧ W.cell? ⟨b, 4, none⟩ = some (.string u) ∧ W.cell? ⟨b, 5, none⟩ = some (.slice none 0 0) ∧ W.cell? ⟨b, 6, none⟩ = some (.slice none 0 0) ∧ W.cell? ⟨b, 7, none⟩ = some (.int .i64 0)
theorem D8.up {W W' : World} {b : Nat} {k : Int} {u : ByteArray} (h : D8 W b k u) (hb : Below W.heap.size W W') : D8 W' b k u :=
 ⟨up_cell hb h.1, up_cell hb h.2.1, up_cell hb h.2.2.1, up_cell hb h.2.2.2.1, up_cell hb h.2.2.2.2.1, up_cell hb h.2.2.2.2.2.1, up_cell hb h.2.2.2.2.2.2.1, up_cell hb h.2.2.2.2.2.2.2⟩
theorem D8.new (W : World) (k : Int) (u : ByteArray) : D8 (W.alloc (.cells #[.int .i64 k, .string ⟨#[]⟩, .int .u64 0, .int .u64 0, .string u, .slice none 0 0, .slice none 0 0, .int .i64 0] 30)) W.heap.size k u := by
 refine ⟨?_, ?_, ?_, ?_, ?_, ?_, ?_, ?_⟩
 all_goals simp [go_sem]
theorem D8.lt {W : World} {b : Nat} {k : Int} {u : ByteArray} (h : D8 W b k u) : b < W.heap.size := World.block_lt_of_cell? W _ h.1
theorem D8.range {W : World} {b : Nat} {k : Int} {u : ByteArray} (h : D8 W b k u) : W.rangeAt b 0 [.int .i64 k, .string ⟨#[]⟩, .int .u64 0, .int .u64 0, .string u, .slice none 0 0, .slice none 0 0, .int .i64 0] := fun j v hv => by
 obtain ⟨h0, h1, h2, h3, h4, h5, h6, h7⟩ := h
 rw [Nat.zero_add]
 match j, hv with
 | 0, hv => simp at hv; subst hv; exact h0
 | 1, hv => simp at hv; subst hv; exact h1
 | 2, hv => simp at hv; subst hv; exact h2
 | 3, hv => simp at hv; subst hv; exact h3
 | 4, hv => simp at hv; subst hv; exact h4
 | 5, hv => simp at hv; subst hv; exact h5
 | 6, hv => simp at hv; subst hv; exact h6
 | 7, hv => simp at hv; subst hv; exact h7
theorem txt_in {T : ByteArray} (h : T.size ≤ 4096) : txt T.data.toList = T := by
 unfold txt
 rw [if_neg (by rw [← Lib.size_eq]; omega)]
abbrev PrOf (fmt : ByteArray) (k : Int) (u T : ByteArray) : Prop := ∀ (W : World) (A : Nat), Esc W → KN W → D8 W A k u → Calls Tryz.prog 11 #[.slice none 0 0, .string fmt, .slice (some ⟨A, 0, none⟩) 1 1] W fun e w' => e = .returned (.string T) ∧ Below W.heap.size W w'
theorem pr_text (fmt : ByteArray) (p : Pc) (hps : prs fmt.data.toList = [p]) (hs : fmt.size ≤ 1000) (hk : p.kind = 1) (hw : p.wid.k = 0) (hp : p.prec.k = 0) (hx : p.arg.k = 0) (hx2 : p.wid.a.k = 0) (hx3 : p.prec.a.k = 0) (hv : ¬ p.verb = 37) (hv2 : ¬ p.verb = 84) (u T : ByteArray) (hu : u.size ≤ 1024) (hT : T.size ≤ 4096)
  (hTx : ∀ W, Esc W → Calls Tryz.prog 151 #[.string u, SV (spQ p)] W fun e w' => e = .returned (.tuple #[.string T, .bool true]) ∧ Below W.heap.size W w') : PrOf fmt 16 u T := by
 intro W A he hk' hD
 have := print_1 fmt p hps hs hk hw hp hx hx2 hx3 hv A 1 (Nat.le_refl _) (by unfold maxLen; omega) 16 0 0 0 ⟨#[]⟩ u _ _ T (by omega) W he hk' hD.lt hD.range (flat_X u hu).vo (fun {_ _ _ _ _ _ _ _ _} hE => shown_flat (flat_X u hu) _ rfl (spQ p) (by show ¬ (p.verb : Int) = 84; omega) T hE (fun V hV => shaped_text (spQ p) _ _ u 0 T true V hV hTx))
 rw [txt_in hT] at this
 exact this
theorem pr_bytes (u T : ByteArray) (hu : u.size ≤ 1024) (hT : T.size ≤ 4096)
  (hTx : ∀ W, Esc W → Calls Tryz.prog 151 #[.string u, SV (bareQ 120)] W fun e w' => e = .returned (.tuple #[.string T, .bool true]) ∧ Below W.heap.size W w') : PrOf ⟨#[37, 120]⟩ 17 u T := by
 intro W A he hk' hD
 have := print_1 ⟨#[37, 120]⟩ pX1 rfl (by decide) rfl rfl rfl rfl rfl rfl (by decide) A 1 (Nat.le_refl _) (by unfold maxLen; omega) 17 0 0 0 ⟨#[]⟩ u _ _ T (by omega) W he hk' hD.lt hD.range (flat_B u hu).vo (fun {_ _ _ _ _ _ _ _ _} hE => shown_flat (flat_B u hu) _ rfl (bareQ 120) (by decide) T hE (fun V hV => shaped_octets (bareQ 120) rfl _ _ u 0 T V hV hTx))
 rw [txt_in hT] at this
 exact this
theorem wdt_off : wdt (-1) = 0 := by decide
theorem pad_off (s : ByteArray) : padS s false false (-1) = s := padS_short s false false (-1) (by rw [wdt_off]; omega)
theorem cut_off (s : ByteArray) : cutS s (min (-1) 1000) = s := by unfold cutS; rw [if_pos (by decide)]
theorem pr_q (u : ByteArray) (hu : u.size ≤ 900) : PrOf ⟨#[37, 113]⟩ 16 u (quoS u false) := by
 have h4 := quoS_size4 u false
 refine pr_text _ ⟨1, [37, 113], fl0, -1, 113, nb0, nb0, ix0⟩ rfl (by decide) rfl rfl rfl rfl rfl rfl (by decide) (by decide) u _ (by omega) (by omega) (fun W hE => ?_)
 have := text_q u false false false false false (-1) (-1) W hE (by omega) (by decide)
 rw [pad_off, cut_off] at this
 exact this
theorem pr_qp (u : ByteArray) (hu : u.size ≤ 900) : PrOf ⟨#[37, 43, 113]⟩ 16 u (quoS u true) := by
 have h4 := quoS_size4 u true
 refine pr_text _ ⟨1, [37, 43, 113], ⟨true, false, false, false, false⟩, -1, 113, nb0, nb0, ix0⟩ rfl (by decide) rfl rfl rfl rfl rfl rfl (by decide) (by decide) u _ (by omega) (by omega) (fun W hE => ?_)
 have := text_q u true false false false false (-1) (-1) W hE (by omega) (by decide)
 rw [pad_off, cut_off] at this
 exact this
theorem pr_x (u : ByteArray) (hu : u.size ≤ 900) : PrOf ⟨#[37, 120]⟩ 16 u (hexS u false false false (-1)) := by
 have h4 := hexS_size u
 refine pr_text _ pX1 rfl (by decide) rfl rfl rfl rfl rfl rfl (by decide) (by decide) u _ (by omega) (by omega) (fun W hE => ?_)
 have := text_x u false false false false false (-1) (-1) W hE (by omega) (by decide)
 rw [pad_off] at this
 exact this
theorem pr_s (u : ByteArray) (hu : u.size ≤ 900) : PrOf ⟨#[37, 115]⟩ 16 u u := by
 refine pr_text _ ⟨1, [37, 115], fl0, -1, 115, nb0, nb0, ix0⟩ rfl (by decide) rfl rfl rfl rfl rfl rfl (by decide) (by decide) u _ (by omega) (by omega) (fun W hE => ?_)
 have := text_s0 u false false false false (-1) (-1) W hE (by omega) (by decide)
 rw [pad_off, cut_off] at this
 exact this
theorem pr_v (u : ByteArray) (hu : u.size ≤ 900) : PrOf ⟨#[37, 118]⟩ 16 u u := by
 refine pr_text _ ⟨1, [37, 118], fl0, -1, 118, nb0, nb0, ix0⟩ rfl (by decide) rfl rfl rfl rfl rfl rfl (by decide) (by decide) u _ (by omega) (by omega) (fun W hE => ?_)
 have := text_v0 u false false false false (-1) (-1) W hE (by omega) (by decide)
 rw [pad_off, cut_off] at this
 exact this
theorem pr_vs (u : ByteArray) (hu : u.size ≤ 900) : PrOf ⟨#[37, 35, 118]⟩ 16 u (quoS u false) := by
 have h4 := quoS_size4 u false
 refine pr_text _ ⟨1, [37, 35, 118], ⟨false, false, true, false, false⟩, -1, 118, nb0, nb0, ix0⟩ rfl (by decide) rfl rfl rfl rfl rfl rfl (by decide) (by decide) u _ (by omega) (by omega) (fun W hE => ?_)
 have := text_v1 u false false false false (-1) (-1) W hE (by omega) (by decide)
 rw [pad_off] at this
 exact this
theorem pr_bx (u : ByteArray) (hu : u.size ≤ 900) : PrOf ⟨#[37, 120]⟩ 17 u (hexS u false false false (-1)) := by
 have h4 := hexS_size u
 refine pr_bytes u _ (by omega) (by omega) (fun W hE => ?_)
 have := text_x u false false false false false (-1) (-1) W hE (by omega) (by decide)
 rw [pad_off] at this
 exact this
theorem tcut_any (s : ByteArray) (m : Nat) (hm : m ≤ 100000) : ∃ u : ByteArray, u.size ≤ m ∧ ∀ w, Calls Tryz.prog 9 #[.string s, .int .i64 m] w fun e w' => e = .returned (.string u) ∧ w' = w := by
 by_cases h : (m : Int) < s.size
 ·refine ⟨s.extract 0 m, by rw [ByteArray.size_extract]; omega, ?_⟩
  intro w
  go_enter Tryz.func9, Tryz.ntmps9
  go_wp2
  go_ret
  exact ⟨rfl, rfl⟩
 ·refine ⟨s, by omega, ?_⟩
  intro w
  go_enter Tryz.func9, Tryz.ntmps9
  go_wp2
  go_ret
  exact ⟨rfl, rfl⟩
end Go.Proofs.YtjalgdfnehgocaaGreatDoor
