/- Drawing a transaction: what lies beside it while it is made (the cursor, the store's box, the result's box), and its box with lists of its own. -/
import Derived.Test.YtcfmpnhnahafpaaDrawS
import Derived.Test.YtcfmpnhnahafpaaTk
import Derived.Test.YtcfmpnhnahafpaaPw
namespace Go.Proofs.Ytcfmpnhnahafpaa.sf
open Go.ChangeShapes Go.WideShapes Go.ChangeAt Go.RowKit
open Go.Proofs.Ytcfmpnhnahafpaa.el2 Go.Proofs.Ytcfmpnhnahafpaa.tx Go.Proofs.Ytcfmpnhnahafpaa.ap Go.Proofs.Ytcfmpnhnahafpaa.bx Go.Proofs.Ytcfmpnhnahafpaa.ad Go.Proofs.Ytcfmpnhnahafpaa.tk
open Go.Proofs.Ytcfmpnhnahafpaa.cur (CurAt CodeAt Kp Only below_calls)
set_option linter.unusedVariables false
set_option linter.unusedSimpArgs false
section
variable {w W W' : World} {B b len cap sb rb tb : Nat} {a : Option Addr} {sv : Value}
theorem below_grown {row : Option Nat} (hb : Below W.heap.size W W') : W.grownBy W' row := ⟨hb.os, hb.tape, hb.output, hb.size, fun k hk _ => hb.block k hk⟩
end
section
variable {w W W' : World} {base tb n c n2 c2 b : Nat} {x : Hd} {A A2 : Option Addr} {R S : List E2}
theorem own_form {w : World} {base n c size : Nat} {e : TypeId} {A : Option Addr} {xs : List Value} (h : w.ownsRow base e size (.slice A n c) n xs) : n ≤ c ∧ ((A = none ∧ c = 0) ∨ ∃ b o, A = some ⟨b, o, none⟩) := by
  rcases h.2 with ⟨e1, h0⟩ | ⟨g, cap, cur, e1, _, _, h3, _⟩
  · injection e1 with a1 a2 a3
    exact ⟨by omega, .inl ⟨a1, a3⟩⟩
  · injection e1 with a1 a2 a3
    exact ⟨by omega, .inr ⟨g, 0, a1⟩⟩
end
/-- five cells laid into a box leave the others -/
theorem off5 (V : World) (bb : Nat) (v0 v1 v2 v3 v4 : Value) : Off bb V (World.setCell (World.setCell (World.setCell (World.setCell (World.setCell V ⟨bb, 0, none⟩ v0) ⟨bb, 1, none⟩ v1) ⟨bb, 2, none⟩ v2) ⟨bb, 3, none⟩ v3) ⟨bb, 4, none⟩ v4) :=
  (((((Off.refl bb V).setCell (p := ⟨bb, 0, none⟩) rfl _).setCell (p := ⟨bb, 1, none⟩) rfl _).setCell (p := ⟨bb, 2, none⟩) rfl _).setCell (p := ⟨bb, 3, none⟩) rfl _).setCell (p := ⟨bb, 4, none⟩) rfl _
theorem cell5 {V : World} {bb : Nat} {v0 v1 v2 v3 v4 : Value} {p : Addr} (h : p.block ≠ bb) : World.cell? (World.setCell (World.setCell (World.setCell (World.setCell (World.setCell V ⟨bb, 0, none⟩ v0) ⟨bb, 1, none⟩ v1) ⟨bb, 2, none⟩ v2) ⟨bb, 3, none⟩ v3) ⟨bb, 4, none⟩ v4) p = V.cell? p := World.cell?_of_block (a := p) ((off5 V bb v0 v1 v2 v3 v4).block _ h)
/-! a block that a stable value does not name: wipe it, the value still reads -/
section
variable {w W W' : World} {B b len cap : Nat} {a : Option Addr}
theorem wipe_only (W : World) (b : Nat) : Only b W (W.setRow b #[]) := by
  have h := set_off (w := W) (g := b) #[]
  exact ⟨h.os, h.tape, h.output, h.size, h.block⟩
theorem ne_of_wiped (hc : CurAt W b a len cap) {p : Addr} {v : Value} (h : (W.setRow b #[]).cell? p = some v) : p.block ≠ b := by
  intro e
  obtain ⟨i, x, _, _, hh⟩ := hc
  have h2 := heap_set (new := #[]) hh
  rw [← e] at h2
  simp only [World.cell?, e ▸ h2] at h
  rw [← e, h2] at h
  simp at h
end
section
variable {w W W' : World} {base tb n c n2 c2 q : Nat} {x : Hd} {A A2 : Option Addr} {R S : List E2}
end
end Go.Proofs.Ytcfmpnhnahafpaa.sf
