/- The model's DrawTrackRead: a drawn transaction, a key, a version. -/
import Derived.Test.YtdfhnngcddaccaaDany
import Derived.Test.YtdfhnngcddaccaaDr
import Derived.Test.YtdfhnngcddaccaaLt
namespace Go.Proofs.Ytdfhnngcddaccaa.drt
open Go.ChangeShapes Go.WideShapes Go.ChangeAt Go.RowKit
open Go.Proofs.Ytdfhnngcddaccaa.el2 Go.Proofs.Ytdfhnngcddaccaa.tx Go.Proofs.Ytdfhnngcddaccaa.ap Go.Proofs.Ytdfhnngcddaccaa.bx Go.Proofs.Ytdfhnngcddaccaa.ad Go.Proofs.Ytdfhnngcddaccaa.sf Go.Proofs.Ytdfhnngcddaccaa.dr
open Go.Proofs.Ytdfhnngcddaccaa.cur (CurAt CodeAt Kp Only below_calls pick_calls new_calls cur_new)
open Go.Proofs.Ytdfhnngcddaccaa.vers (new2)
open Go.Proofs.Ytdfhnngcddaccaa.sl (Ver)
set_option linter.unusedVariables false
set_option linter.unusedSimpArgs false
section
variable {w W W' : World} {B b base tb n c n2 c2 : Nat} {x : Hd} {A A2 : Option Addr} {R S : List E2}
theorem Bo.kp (h : Bo W base tb x A n c R A2 n2 c2 S) (hb : b < base) (hk : Kp B b W W') : Bo W' base tb x A n c R A2 n2 c2 S :=
  ⟨h.bx.of_block (hk.gr.block tb h.lt (fun e => by injection e with e; have := h.le; omega)), ⟨own_same h.own.1 fun g hg => by
    obtain ⟨h1, cur, hh⟩ := own_block h.own.1 hg
    exact hk.gr.block g (heap_lt hh) (fun e => by injection e with e; omega), own_same h.own.2 fun g hg => by
    obtain ⟨h1, cur, hh⟩ := own_block h.own.2 hg
    exact hk.gr.block g (heap_lt hh) (fun e => by injection e with e; omega)⟩, h.le⟩
theorem put9_cell {V : World} {bb : Nat} {x : Hd} {u v : Value} {p : Addr} (h : p.block ≠ bb) : World.cell? (World.setCell (World.setCell (World.setCell (World.setCell (World.setCell (World.setCell (World.setCell (World.setCell (World.setCell V ⟨bb, 0, none⟩ (.int .i64 x.i)) ⟨bb, 1, none⟩ (.int .i64 x.s)) ⟨bb, 2, none⟩ (.int .i64 x.t)) ⟨bb, 3, none⟩ (.int .i64 x.b)) ⟨bb, 4, none⟩ (.int .i64 x.l)) ⟨bb, 5, none⟩ (.int .i64 x.h)) ⟨bb, 6, none⟩ (.int .i64 x.c)) ⟨bb, 7, none⟩ u) ⟨bb, 8, none⟩ v) p = V.cell? p := Go.Proofs.Ytdfhnngcddaccaa.lt.put_cell h
end
section
variable {w W W' : World} {rb vb base tb n c n2 c2 : Nat} {x : Hd} {A A2 : Option Addr} {R S : List E2} {v : Ver}
/-- what a caller sees when the two results have been laid -/
def Fin (w W' : World) (rb vb : Nat) (x : Hd) (A : Option Addr) (n c : Nat) (R : List E2) (A2 : Option Addr) (n2 c2 : Nat) (S : List E2) (v : Ver) : Prop :=
  TB W' rb x (.slice A n c) (.slice A2 n2 c2) ∧ Go.Proofs.Ytdfhnngcddaccaa.sl.At W' vb 0 v ∧ OwnT W' w.heap.size (.slice A n c) n R (.slice A2 n2 c2) n2 S ∧ Below w.heap.size w W'
theorem fin_95 (hz : Bx W rb ⟨0, 0, 0, 0, 0, 0, 0⟩ (.slice none 0 0) (.slice none 0 0)) (hv : Vx W vb ⟨0, 0, 0, 0, 0⟩) (hB : Bo W base tb x A n c R A2 n2 c2 S) (hbel : Below w.heap.size w W) (h1 : w.heap.size ≤ rb) (h2 : w.heap.size ≤ vb) (hne : rb ≠ vb) (h3 : rb < base) (h4 : vb < base) (hw : w.heap.size ≤ base)
    (hW : (World.setCell (World.setCell (World.setCell (World.setCell (World.setCell (World.setCell (World.setCell (World.setCell (World.setCell (World.setCell (World.setCell (World.setCell (World.setCell (World.setCell W ⟨rb, 0, none⟩ (.int .i64 x.i)) ⟨rb, 1, none⟩ (.int .i64 x.s)) ⟨rb, 2, none⟩ (.int .i64 x.t)) ⟨rb, 3, none⟩ (.int .i64 x.b)) ⟨rb, 4, none⟩ (.int .i64 x.l)) ⟨rb, 5, none⟩ (.int .i64 x.h)) ⟨rb, 6, none⟩ (.int .i64 x.c)) ⟨rb, 7, none⟩ (.slice A n c)) ⟨rb, 8, none⟩ (.slice A2 n2 c2)) ⟨vb, 0, none⟩ (.int .i64 v.a)) ⟨vb, 1, none⟩ (.int .i64 v.b)) ⟨vb, 2, none⟩ (.int .i64 v.c)) ⟨vb, 3, none⟩ (.int .i64 v.d)) ⟨vb, 4, none⟩ (.int .i64 v.e)) = W') : Fin w W' rb vb x A n c R A2 n2 c2 S v := by
  have o1 := off_put W rb x (.slice A n c) (.slice A2 n2 c2)
  have b1 := hz.put x (.slice A n c) (.slice A2 n2 c2)
  have v1 := hv.of_block (o1.block vb (fun e => hne e.symm))
  have w1 := hB.own.off o1 h3
  have l1 := hbel.trans (o1.below h1)
  generalize (World.setCell (World.setCell (World.setCell (World.setCell (World.setCell (World.setCell (World.setCell (World.setCell (World.setCell W ⟨rb, 0, none⟩ (.int .i64 x.i)) ⟨rb, 1, none⟩ (.int .i64 x.s)) ⟨rb, 2, none⟩ (.int .i64 x.t)) ⟨rb, 3, none⟩ (.int .i64 x.b)) ⟨rb, 4, none⟩ (.int .i64 x.l)) ⟨rb, 5, none⟩ (.int .i64 x.h)) ⟨rb, 6, none⟩ (.int .i64 x.c)) ⟨rb, 7, none⟩ (.slice A n c)) ⟨rb, 8, none⟩ (.slice A2 n2 c2)) = W1 at o1 b1 v1 w1 l1 hW
  have o2 := off5 W1 vb (.int .i64 v.a) (.int .i64 v.b) (.int .i64 v.c) (.int .i64 v.d) (.int .i64 v.e)
  have v2 := v1.put v
  rw [hW] at o2 v2
  exact ⟨(b1.of_block (o2.block rb hne)).tb, v2.at_, (w1.off o2 h4).more hw, l1.trans (o2.below h2)⟩
theorem fin_59 (hz : Bx W rb ⟨0, 0, 0, 0, 0, 0, 0⟩ (.slice none 0 0) (.slice none 0 0)) (hv : Vx W vb ⟨0, 0, 0, 0, 0⟩) (hB : Bo W base tb x A n c R A2 n2 c2 S) (hbel : Below w.heap.size w W) (h1 : w.heap.size ≤ rb) (h2 : w.heap.size ≤ vb) (hne : rb ≠ vb) (h3 : rb < base) (h4 : vb < base) (hw : w.heap.size ≤ base)
    (hW : (World.setCell (World.setCell (World.setCell (World.setCell (World.setCell (World.setCell (World.setCell (World.setCell (World.setCell (World.setCell (World.setCell (World.setCell (World.setCell (World.setCell W ⟨vb, 0, none⟩ (.int .i64 v.a)) ⟨vb, 1, none⟩ (.int .i64 v.b)) ⟨vb, 2, none⟩ (.int .i64 v.c)) ⟨vb, 3, none⟩ (.int .i64 v.d)) ⟨vb, 4, none⟩ (.int .i64 v.e)) ⟨rb, 0, none⟩ (.int .i64 x.i)) ⟨rb, 1, none⟩ (.int .i64 x.s)) ⟨rb, 2, none⟩ (.int .i64 x.t)) ⟨rb, 3, none⟩ (.int .i64 x.b)) ⟨rb, 4, none⟩ (.int .i64 x.l)) ⟨rb, 5, none⟩ (.int .i64 x.h)) ⟨rb, 6, none⟩ (.int .i64 x.c)) ⟨rb, 7, none⟩ (.slice A n c)) ⟨rb, 8, none⟩ (.slice A2 n2 c2)) = W') : Fin w W' rb vb x A n c R A2 n2 c2 S v := by
  have o1 := off5 W vb (.int .i64 v.a) (.int .i64 v.b) (.int .i64 v.c) (.int .i64 v.d) (.int .i64 v.e)
  have v1 := hv.put v
  have b1 := hz.of_block (o1.block rb hne)
  have w1 := hB.own.off o1 h4
  have l1 := hbel.trans (o1.below h2)
  generalize (World.setCell (World.setCell (World.setCell (World.setCell (World.setCell W ⟨vb, 0, none⟩ (.int .i64 v.a)) ⟨vb, 1, none⟩ (.int .i64 v.b)) ⟨vb, 2, none⟩ (.int .i64 v.c)) ⟨vb, 3, none⟩ (.int .i64 v.d)) ⟨vb, 4, none⟩ (.int .i64 v.e)) = W1 at o1 b1 v1 w1 l1 hW
  have o2 := off_put W1 rb x (.slice A n c) (.slice A2 n2 c2)
  have b2 := b1.put x (.slice A n c) (.slice A2 n2 c2)
  rw [hW] at o2 b2
  exact ⟨b2.tb, (v1.of_block (o2.block vb (fun e => hne e.symm))).at_, (w1.off o2 h3).more hw, l1.trans (o2.below h1)⟩
end
/-- a drawn transaction, a key, a version -/
def DTR (w : World) (e : Ending) (w' : World) : Prop :=
  ∃ (x : Hd) (A : Option Addr) (n c : Nat) (R : List E2) (A2 : Option Addr) (n2 c2 : Nat) (S : List E2) (k : Int) (v : Ver), e = .returned (.tuple #[txv x (.slice A n c) (.slice A2 n2 c2), .int .i64 k, .agg #[.int .i64 v.a, .int .i64 v.b, .int .i64 v.c, .int .i64 v.d, .int .i64 v.e]]) ∧ n ≤ 5 ∧ n2 ≤ 5 ∧ OwnT w' w.heap.size (.slice A n c) n R (.slice A2 n2 c2) n2 S ∧ Below w.heap.size w w'
end Go.Proofs.Ytdfhnngcddaccaa.drt
