/- The law's lives, layer 11. -/
import Derived.Test.YtbfaapbbhgegiaaDoorXCopyN
import Derived.Test.YtbfaapbbhgegiaaDoorTextA
namespace Go.Proofs.YtbfaapbbhgegiaaDoor
open Go.RowKit
set_option linter.unusedVariables false
set_option linter.unusedSimpArgs false

def liA : Ac := ⟨1, ⟨#[104, 105]⟩, ⟨#[]⟩, .no, .no⟩
def liD : Ds := ⟨0, ⟨#[]⟩, 0, 0, ⟨#[98, 111, 111]⟩, .no, .no, 0⟩
def liB : Ac := ⟨2, ⟨#[]⟩, ⟨#[]⟩, .no, liD⟩
def liH : Hk := ⟨.no, .no, .no, liA⟩
def liK : Hk := ⟨.no, .no, .no, liB⟩
theorem bld_liA (w : World) : (Instr.build 28 #[(0, .int .i64 1), (1, .string ⟨#[104, 105]⟩)]).run Tryd.prog w = .ok (.agg liA.v.toArray) w := by kernel_rfl
theorem bld_liD (w : World) : (Instr.build 26 #[(4, .string ⟨#[98, 111, 111]⟩)]).run Tryd.prog w = .ok (.agg liD.v.toArray) w := by kernel_rfl
theorem bld_liB (w : World) : (Instr.build 28 #[(0, .int .i64 2), (4, .agg liD.v.toArray)]).run Tryd.prog w = .ok (.agg liB.v.toArray) w := by kernel_rfl
theorem bld_liH (w : World) : (Instr.build 30 #[(3, .agg liA.v.toArray)]).run Tryd.prog w = .ok (.agg liH.v.toArray) w := by kernel_rfl
theorem bld_liK (w : World) : (Instr.build 30 #[(3, .agg liB.v.toArray)]).run Tryd.prog w = .ok (.agg liK.v.toArray) w := by kernel_rfl
theorem wh_liH : whN liH 113 false = 4 := by decide +kernel
theorem wh_liK : whN liK 115 false = 4 := by decide +kernel
theorem tx_li : padS (quotedS (cutS ⟨#[104, 105]⟩ (min (-1) 1000)) false false) false false (-1) = ⟨#[34, 104, 105, 34]⟩ := by decide +kernel
def liT : ByteArray := ⟨#[37, 33, 115, 40, 80, 65, 78, 73, 67, 61, 83, 116, 114, 105, 110, 103, 32, 109, 101, 116, 104, 111, 100, 58, 32, 123, 48, 98, 111, 111, 125, 41]⟩
theorem pn_li : pnT 115 (mT 4) (shT 0 ⟨#[98, 111, 111]⟩) = liT := by decide +kernel
theorem Esc.grown {w W : World} {X : Nat} (h : Esc w) (g : w.grownBy W (some X)) (hX : X ≠ 0) : Esc W :=
  ⟨Nat.lt_of_lt_of_le h.1 g.size, fun i hi => (World.cell?_of_block (w := w) (a := ⟨0, i, none⟩) (g.block 0 h.1 (by simpa using hX.symm))).trans (h.2 i hi)⟩
/-- The two calls of Say in lives. -/
theorem say_li1 {X : Nat} {p s : Int} (w : World) (hE : Esc w) (hX : X ≠ 0) (hq : Aq w X p s) : Calls Tryd.prog 24 (sArgs liH (bareS 113) false X) w fun e w' => e = .returned (.tuple #[.string ⟨#[34, 104, 105, 34]⟩, .bool true]) ∧ Aq w' X p s ∧ w.grownBy w' (some X) := by
  refine say_4 (w0 := w) (T := ⟨#[104, 105]⟩) (p' := p) (s' := s) (b2 := true) (h := liH) (f := bareS 113) wh_liH ?_ ?_ w (World.grownBy.refl _ _) hq
  · intro W gW qW
    exact do_tells (np := false) (v := 113) (m := mT 4) liA rfl W qW
  · intro W gW
    have := text_q ⟨#[104, 105]⟩ false false false false false (-1) (-1) W (hE.grown gW hX) (by decide) (by omega)
    rw [tx_li] at this
    exact this
theorem say_li2 {X : Nat} {p s : Int} (w : World) (hq : Aq w X p s) (hs : 0 ≤ s) (hs2 : s ≤ 1000000) : Calls Tryd.prog 24 (sArgs liK (bareS 115) false X) w fun e w' => e = .returned (.tuple #[.string liT, .bool true]) ∧ Aq w' X p (s + 1) ∧ w.grownBy w' (some X) := by
  refine say_4f (w0 := w) (T := liT) (p' := p) (s' := s + 1) (h := liK) (f := bareS 115) wh_liK ?_ w (World.grownBy.refl _ _) hq
  intro W gW qW
  have := do_throws (np := false) (v := 115) (m := mT 4) (w0 := w) liB rfl rfl hs hs2 (by decide) (by decide) (fun V gV => (copied_nil liD rfl rfl V).mono (fun e V' ⟨e1, e2⟩ => ⟨⟨liD, e1, rfl, rfl⟩, e2⟩)) W gW qW
  rw [show pnT 115 (mT 4) (shT liB.p.k liB.p.tx) = liT from pn_li] at this
  exact this
end Go.Proofs.YtbfaapbbhgegiaaDoor
