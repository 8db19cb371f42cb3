/- Drawing a transaction: what lies beside it while it is made (the cursor, the store's box, the result's box), and its box with lists of its own. -/
import Derived.Test.YtdfhnngcddaccaaDrawS
import Derived.Test.YtdfhnngcddaccaaTk
import Derived.Test.YtdfhnngcddaccaaPw
namespace Go.Proofs.Ytdfhnngcddaccaa.sf
open Go.ChangeShapes Go.WideShapes Go.ChangeAt Go.RowKit
open Go.Proofs.Ytdfhnngcddaccaa.el2 Go.Proofs.Ytdfhnngcddaccaa.tx Go.Proofs.Ytdfhnngcddaccaa.ap Go.Proofs.Ytdfhnngcddaccaa.bx Go.Proofs.Ytdfhnngcddaccaa.ad Go.Proofs.Ytdfhnngcddaccaa.tk
open Go.Proofs.Ytdfhnngcddaccaa.cur (CurAt CodeAt Kp Only below_calls pick_calls)
set_option linter.unusedVariables false
set_option linter.unusedSimpArgs false
/-- the cursor, the store's box sb and the result's box rb -/
structure SF (w : World) (B b : Nat) (a : Option Addr) (len cap sb rb : Nat) (sv : Value) (W : World) : Prop where
  kp : Kp B b w W
  cur : CurAt W b a len cap
  st : W.cell? ⟨sb, 0, none⟩ = some sv
  rz : Bx W rb ⟨0, 0, 0, 0, 0, 0, 0⟩ (.slice none 0 0) (.slice none 0 0)
  s1 : w.heap.size ≤ sb
  s2 : sb < W.heap.size
  r1 : w.heap.size ≤ rb
section
variable {w W W' : World} {B b len cap sb rb tb : Nat} {a : Option Addr} {sv : Value}
theorem below_grown {row : Option Nat} (hb : Below W.heap.size W W') : W.grownBy W' row := ⟨hb.os, hb.tape, hb.output, hb.size, fun k hk _ => hb.block k hk⟩
theorem SF.only (h : SF w B b a len cap sb rb sv W) (hb : b < w.heap.size) (hB : B ≤ b) (ho : Only b W W') (hc : CurAt W' b a len cap) : SF w B b a len cap sb rb sv W' :=
  ⟨h.kp.only ho hB, hc, (World.cell?_of_block (w := W) (a := ⟨sb, 0, none⟩) (ho.block sb (by have := h.s1; omega))).trans h.st, h.rz.of_block (ho.block rb (by have := h.r1; omega)), h.s1, by rw [ho.size]; exact h.s2, h.r1⟩
theorem SF.grown (h : SF w B b a len cap sb rb sv W) (hB : B ≤ w.heap.size) (hg : Below W.heap.size W W') : SF w B b a len cap sb rb sv W' :=
  ⟨h.kp.grown (row := none) (below_grown hg) hB (fun k e => by cases e), h.cur.grown (row := none) (below_grown hg) (by simp), (hg.cell (p := ⟨sb, 0, none⟩) h.s2).trans h.st, h.rz.keep hg h.rz.lt, h.s1, Nat.lt_of_lt_of_le h.s2 hg.size, h.r1⟩
theorem SF.off (h : SF w B b a len cap sb rb sv W) (hb : b < w.heap.size) (hB : B ≤ w.heap.size) (ht : w.heap.size ≤ tb) (hs : sb ≠ tb) (hr : rb ≠ tb) (ho : Off tb W W') : SF w B b a len cap sb rb sv W' := by
  have hg : W.grownBy W' (some tb) := ⟨ho.os, ho.tape, ho.output, by rw [ho.size]; exact Nat.le_refl _, fun k _ hk => ho.block k (fun e => hk (by rw [e]))⟩
  exact ⟨h.kp.grown hg hB (fun k e => by injection e with e; omega), h.cur.grown hg (fun e => by injection e with e; omega), (World.cell?_of_block (w := W) (a := ⟨sb, 0, none⟩) (ho.block sb hs)).trans h.st, h.rz.of_block (ho.block rb hr), h.s1, by rw [ho.size]; exact h.s2, h.r1⟩
end
section
variable {w W W' : World} {base tb n c n2 c2 b : Nat} {x : Hd} {A A2 : Option Addr} {R S : List E2}
theorem Bo.only (h : Bo W base tb x A n c R A2 n2 c2 S) (hb : b < base) (ho : Only b W W') : Bo W' base tb x A n c R A2 n2 c2 S :=
  have hoff : Off b W W' := ⟨ho.os, ho.tape, ho.output, ho.size, ho.block⟩
  ⟨h.bx.of_block (ho.block tb (by have := h.le; omega)), h.own.off hoff hb, h.le⟩
/-- a new list of writes in memory that was not there -/
theorem Bo.new8 {A' : Option Addr} {n' c' : Nat} {S' : List E2} (h : Bo W base tb x A n c R A2 n2 c2 S) (ho : W'.ownsRow W.heap.size 81 2 (.slice A' n' c') n' (flat S')) (hb : Below W.heap.size W W') :
    Bx W' tb x (.slice A n c) (.slice A2 n2 c2) ∧ Bo (W'.setCell ⟨tb, 8, none⟩ (.slice A' n' c')) base tb x A n c R A' n' c' S' := by
  have hx := h.bx.keep hb h.lt
  have hoff : Off tb W' (W'.setCell ⟨tb, 8, none⟩ (.slice A' n' c')) := (Off.refl tb W').setCell (p := ⟨tb, 8, none⟩) rfl _
  obtain ⟨cb, hcb⟩ := bx_heap hx
  have h1 := own_keep h.own.1 hb
  have h2 := own_more ho (Nat.le_trans h.le (Nat.le_of_lt h.lt))
  refine ⟨hx, hx.set8 _, ⟨own_same h1 fun g hg1 => hoff.block g ?_, own_same h2 fun g hg2 => hoff.block g ?_⟩, h.le⟩
  · obtain ⟨_, cur, hh⟩ := own_block h1 hg1
    exact type_ne hh hcb (by decide)
  · obtain ⟨_, cur, hh⟩ := own_block h2 hg2
    exact type_ne hh hcb (by decide)
theorem own_form {w : World} {base n c size : Nat} {e : TypeId} {A : Option Addr} {xs : List Value} (h : w.ownsRow base e size (.slice A n c) n xs) : n ≤ c ∧ ((A = none ∧ c = 0) ∨ ∃ b o, A = some ⟨b, o, none⟩) := by
  rcases h.2 with ⟨e1, h0⟩ | ⟨g, cap, cur, e1, _, _, h3, _⟩
  · injection e1 with a1 a2 a3
    exact ⟨by omega, .inl ⟨a1, a3⟩⟩
  · injection e1 with a1 a2 a3
    exact ⟨by omega, .inr ⟨g, 0, a1⟩⟩
theorem Bo.vs2 (h : Bo W base tb x A n c R A2 n2 c2 S) : Vs W W.heap.size A2 n2 S := by
  obtain ⟨A', c', e, hv, _⟩ := own_vs h.own.2 (by have := h.own.2.1; rw [flat_len] at this; omega)
  injection e with e1 _ e3
  subst e1
  exact hv
theorem Bo.len2 (h : Bo W base tb x A n c R A2 n2 c2 S) : S.length = n2 := by have := h.own.2.1; rw [flat_len] at this; omega
end
/-- five cells laid into a box leave the others -/
theorem off5 (V : World) (bb : Nat) (v0 v1 v2 v3 v4 : Value) : Off bb V (World.setCell (World.setCell (World.setCell (World.setCell (World.setCell V ⟨bb, 0, none⟩ v0) ⟨bb, 1, none⟩ v1) ⟨bb, 2, none⟩ v2) ⟨bb, 3, none⟩ v3) ⟨bb, 4, none⟩ v4) :=
  (((((Off.refl bb V).setCell (p := ⟨bb, 0, none⟩) rfl _).setCell (p := ⟨bb, 1, none⟩) rfl _).setCell (p := ⟨bb, 2, none⟩) rfl _).setCell (p := ⟨bb, 3, none⟩) rfl _).setCell (p := ⟨bb, 4, none⟩) rfl _
theorem cell5 {V : World} {bb : Nat} {v0 v1 v2 v3 v4 : Value} {p : Addr} (h : p.block ≠ bb) : World.cell? (World.setCell (World.setCell (World.setCell (World.setCell (World.setCell V ⟨bb, 0, none⟩ v0) ⟨bb, 1, none⟩ v1) ⟨bb, 2, none⟩ v2) ⟨bb, 3, none⟩ v3) ⟨bb, 4, none⟩ v4) p = V.cell? p := World.cell?_of_block (a := p) ((off5 V bb v0 v1 v2 v3 v4).block _ h)
/-! a block that a stable value does not name: wipe it, the value still reads -/
section
variable {w W W' : World} {B b len cap : Nat} {a : Option Addr}
theorem wipe_only (W : World) (b : Nat) : Only b W (W.setRow b #[]) := by
  have h := set_off (w := W) (g := b) #[]
  exact ⟨h.os, h.tape, h.output, h.size, h.block⟩
theorem ne_of_wiped (hc : CurAt W b a len cap) {p : Addr} {v : Value} (h : (W.setRow b #[]).cell? p = some v) : p.block ≠ b := by
  intro e
  obtain ⟨i, x, _, _, hh⟩ := hc
  have h2 := heap_set (new := #[]) hh
  rw [← e] at h2
  simp only [World.cell?, e ▸ h2] at h
  rw [← e, h2] at h
  simp at h
end
section
variable {w W W' : World} {base tb n c n2 c2 q : Nat} {x : Hd} {A A2 : Option Addr} {R S : List E2}
/-- a change of a block that it does not name -/
theorem Bo.off (h : Bo W base tb x A n c R A2 n2 c2 S) (ho : Off q W W') (hq : q ≠ tb) (h1 : ∀ g, (Value.slice A n c).ownBlock = some g → g ≠ q) (h2 : ∀ g, (Value.slice A2 n2 c2).ownBlock = some g → g ≠ q) : Bo W' base tb x A n c R A2 n2 c2 S :=
  ⟨h.bx.of_block (ho.block tb (fun e => hq e.symm)), ⟨own_same h.own.1 fun g hg => ho.block g (h1 g hg), own_same h.own.2 fun g hg => ho.block g (h2 g hg)⟩, h.le⟩
theorem Bo.old (h : Bo W base tb x A n c R A2 n2 c2 S) : (∀ g, (Value.slice A n c).ownBlock = some g → g < W.heap.size) ∧ (∀ g, (Value.slice A2 n2 c2).ownBlock = some g → g < W.heap.size) :=
  ⟨fun g hg => by obtain ⟨_, cur, hh⟩ := own_block h.own.1 hg; exact heap_lt hh, fun g hg => by obtain ⟨_, cur, hh⟩ := own_block h.own.2 hg; exact heap_lt hh⟩
end
end Go.Proofs.Ytdfhnngcddaccaa.sf
