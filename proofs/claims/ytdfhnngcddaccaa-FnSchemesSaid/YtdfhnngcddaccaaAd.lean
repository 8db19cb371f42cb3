/- Chapter 6 of the program: a read added to a transaction's box, its ends moved. -/
import Derived.Test.YtdfhnngcddaccaaIsr
import Derived.Test.YtdfhnngcddaccaaBs
import Derived.Lib.MinMax
namespace Go.Proofs.Ytdfhnngcddaccaa.ad
open Go.ChangeShapes Go.WideShapes Go.ChangeAt Go.RowKit
open Go.Proofs.Ytdfhnngcddaccaa.el2 Go.Proofs.Ytdfhnngcddaccaa.tx Go.Proofs.Ytdfhnngcddaccaa.seq Go.Proofs.Ytdfhnngcddaccaa.tv Go.Proofs.Ytdfhnngcddaccaa.tf Go.Proofs.Ytdfhnngcddaccaa.tm Go.Proofs.Ytdfhnngcddaccaa.ap Go.Proofs.Ytdfhnngcddaccaa.bx Go.Proofs.Ytdfhnngcddaccaa.cl Go.Proofs.Ytdfhnngcddaccaa.ro Go.Proofs.Ytdfhnngcddaccaa.ao Go.Proofs.Ytdfhnngcddaccaa.ins Go.Proofs.Ytdfhnngcddaccaa.bs Go.Proofs.Ytdfhnngcddaccaa.isr
set_option linter.unusedVariables false
set_option linter.unusedSimpArgs false
/-- the box of a transaction with lists of its own, all from base on -/
structure Bo (w : World) (base tb : Nat) (x : Hd) (A : Option Addr) (n c : Nat) (R : List E2) (A2 : Option Addr) (n2 c2 : Nat) (S : List E2) : Prop where
  bx : Bx w tb x (.slice A n c) (.slice A2 n2 c2)
  own : OwnT w base (.slice A n c) n R (.slice A2 n2 c2) n2 S
  le : base ≤ tb
theorem heap_lt {w : World} {g : Nat} {o : Obj} (h : w.heap[g]? = some o) : g < w.heap.size := (Array.getElem?_eq_some_iff.1 h).1
theorem own_block {w : World} {base n size : Nat} {e : TypeId} {v : Value} {xs : List Value} (h : w.ownsRow base e size v n xs) {g : Nat} (hg : v.ownBlock = some g) : base ≤ g ∧ ∃ cur, w.heap[g]? = some (.cells cur e (0, 0)) := by
  rcases h.2 with ⟨e1, _⟩ | ⟨g', cap, cur, e1, hb, hh, _⟩
  · rw [e1] at hg; simp [Value.ownBlock] at hg
  · rw [e1] at hg
    simp [Value.ownBlock] at hg
    subst hg
    exact ⟨hb, cur, hh⟩
theorem bx_heap {w : World} {b : Nat} {x : Hd} {u v : Value} (h : Bx w b x u v) : ∃ cur, w.heap[b]? = some (.cells cur 30 (0, 0)) := by
  obtain ⟨c, hc, _⟩ := h
  exact ⟨c, hc⟩
theorem type_ne {w : World} {g g2 : Nat} {c c2 : Array Value} {t t2 : TypeId} (h : w.heap[g]? = some (.cells c t (0, 0))) (h2 : w.heap[g2]? = some (.cells c2 t2 (0, 0))) (ht : t ≠ t2) : g ≠ g2 := by
  rintro rfl
  rw [h] at h2
  injection h2 with e
  injection e with _ e2
  exact ht e2
/-- a row of the call's own is as it was where its block is -/
theorem own_same {w w' : World} {base n size : Nat} {e : TypeId} {v : Value} {xs : List Value} (h : w.ownsRow base e size v n xs) (hk : ∀ g, v.ownBlock = some g → w'.heap[g]? = w.heap[g]?) : w'.ownsRow base e size v n xs :=
  ⟨h.1, by
    rcases h.2 with h0 | ⟨g, cap, cur, e1, h1, h2, h3⟩
    · exact .inl h0
    · exact .inr ⟨g, cap, cur, e1, h1, (hk g (by rw [e1]; simp [Value.ownBlock])).trans h2, h3⟩⟩
section
variable {w w' : World} {base tb n c n2 c2 : Nat} {x : Hd} {A A2 : Option Addr} {R S : List E2}
theorem Bo.lt (h : Bo w base tb x A n c R A2 n2 c2 S) : tb < w.heap.size := h.bx.lt
theorem Bo.keep (h : Bo w base tb x A n c R A2 n2 c2 S) (hb : Below w.heap.size w w') : Bo w' base tb x A n c R A2 n2 c2 S := ⟨h.bx.keep hb h.lt, h.own.keep hb, h.le⟩
theorem Bo.vs (h : Bo w base tb x A n c R A2 n2 c2 S) : Vs w w.heap.size A n R := by
  obtain ⟨A', c', e, hv, _⟩ := own_vs h.own.1 (by have := h.own.1.1; rw [flat_len] at this; omega)
  injection e with e1 _ e3
  subst e1
  exact hv
theorem Bo.len (h : Bo w base tb x A n c R A2 n2 c2 S) : R.length = n := by have := h.own.1.1; rw [flat_len] at this; omega
/-- the lists are in no box of a transaction -/
theorem Bo.ne (h : Bo w base tb x A n c R A2 n2 c2 S) : (∀ g, (Value.slice A n c).ownBlock = some g → g ≠ tb) ∧ (∀ g, (Value.slice A2 n2 c2).ownBlock = some g → g ≠ tb) ∧ ∀ g g2, (Value.slice A n c).ownBlock = some g → (Value.slice A2 n2 c2).ownBlock = some g2 → g ≠ g2 := by
  obtain ⟨cb, hb⟩ := bx_heap h.bx
  refine ⟨fun g hg => ?_, fun g hg => ?_, fun g g2 hg hg2 => ?_⟩
  · obtain ⟨_, cur, hh⟩ := own_block h.own.1 hg
    exact type_ne hh hb (by decide)
  · obtain ⟨_, cur, hh⟩ := own_block h.own.2 hg
    exact type_ne hh hb (by decide)
  · obtain ⟨_, cur, hh⟩ := own_block h.own.1 hg
    obtain ⟨_, cur2, hh2⟩ := own_block h.own.2 hg2
    exact type_ne hh hh2 (by decide)
theorem Bo.put4 (h : Bo w base tb x A n c R A2 n2 c2 S) (z : Int) : Bo (w.setCell ⟨tb, 4, none⟩ (.int .i64 z)) base tb { x with l := z } A n c R A2 n2 c2 S :=
  have ho : Off tb w (w.setCell ⟨tb, 4, none⟩ (.int .i64 z)) := (Off.refl tb w).setCell (p := ⟨tb, 4, none⟩) rfl _
  ⟨h.bx.set4 z, ⟨own_same h.own.1 fun g hg => ho.block g (h.ne.1 g hg), own_same h.own.2 fun g hg => ho.block g (h.ne.2.1 g hg)⟩, h.le⟩
theorem Bo.put5 (h : Bo w base tb x A n c R A2 n2 c2 S) (z : Int) : Bo (w.setCell ⟨tb, 5, none⟩ (.int .i64 z)) base tb { x with h := z } A n c R A2 n2 c2 S :=
  have ho : Off tb w (w.setCell ⟨tb, 5, none⟩ (.int .i64 z)) := (Off.refl tb w).setCell (p := ⟨tb, 5, none⟩) rfl _
  ⟨h.bx.set5 z, ⟨own_same h.own.1 fun g hg => ho.block g (h.ne.1 g hg), own_same h.own.2 fun g hg => ho.block g (h.ne.2.1 g hg)⟩, h.le⟩
/-- a new list of reads, made by what changes the old one's row alone -/
theorem Bo.put7 (h : Bo w base tb x A n c R A2 n2 c2 S) {A' : Option Addr} {n' c' : Nat} {R' : List E2} (ho : w'.ownsRow base 125 2 (.slice A' n' c') n' (flat R')) (hg : w.grownBy w' (Value.slice A n c).ownBlock) :
    Bx w' tb x (.slice A n c) (.slice A2 n2 c2) ∧ Bo (w'.setCell ⟨tb, 7, none⟩ (.slice A' n' c')) base tb x A' n' c' R' A2 n2 c2 S ∧ Below base w (w'.setCell ⟨tb, 7, none⟩ (.slice A' n' c')) := by
  have hb : Bx w' tb x (.slice A n c) (.slice A2 n2 c2) := h.bx.of_block (hg.block tb h.lt fun e => h.ne.1 tb e.symm rfl)
  have hoff : Off tb w' (w'.setCell ⟨tb, 7, none⟩ (.slice A' n' c')) := (Off.refl tb w').setCell (p := ⟨tb, 7, none⟩) rfl _
  obtain ⟨cb, hcb⟩ := bx_heap hb
  have h2 : w'.ownsRow base 81 2 (.slice A2 n2 c2) n2 (flat S) := own_same h.own.2 fun g hg2 => hg.block g (by obtain ⟨_, cur, hh⟩ := own_block h.own.2 hg2; exact heap_lt hh) fun e => h.ne.2.2 g g e.symm hg2 rfl
  refine ⟨hb, ⟨hb.set7 _, ⟨own_same ho fun g hg1 => hoff.block g ?_, own_same h2 fun g hg2 => hoff.block g ?_⟩, h.le⟩, ?_⟩
  · obtain ⟨_, cur, hh⟩ := own_block ho hg1
    exact type_ne hh hcb (by decide)
  · obtain ⟨_, cur, hh⟩ := own_block h2 hg2
    exact type_ne hh hcb (by decide)
  · refine (Below.trans ⟨hg.os, hg.tape, hg.output, hg.size, fun k hk => hg.block k (Nat.lt_of_lt_of_le hk (Nat.le_trans h.le (Nat.le_of_lt h.lt))) fun e => ?_⟩ (hoff.below h.le))
    have := (own_block h.own.1 e.symm).1
    omega
end
end Go.Proofs.Ytdfhnngcddaccaa.ad
