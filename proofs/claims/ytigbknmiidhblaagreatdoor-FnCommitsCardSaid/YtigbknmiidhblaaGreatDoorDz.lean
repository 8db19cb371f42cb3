/- The model's DrawCommitTransaction: a drawn store, a drawn transaction, a stamp. -/
import Derived.Test.YtigbknmiidhblaaGreatDoorDany
import Derived.Test.YtigbknmiidhblaaGreatDoorDr
import Derived.Test.YtigbknmiidhblaaGreatDoorLt
import Derived.Test.YtigbknmiidhblaaGreatDoorXga
/- The model's DrawTrackRead: a drawn transaction, a key, a version. -/
namespace Go.Proofs.YtigbknmiidhblaaGreatDoor.drt
open Go.ChangeShapes Go.WideShapes Go.ChangeAt Go.RowKit
open Go.Proofs.YtigbknmiidhblaaGreatDoor.el2 Go.Proofs.YtigbknmiidhblaaGreatDoor.tx Go.Proofs.YtigbknmiidhblaaGreatDoor.ap Go.Proofs.YtigbknmiidhblaaGreatDoor.bx Go.Proofs.YtigbknmiidhblaaGreatDoor.ad Go.Proofs.YtigbknmiidhblaaGreatDoor.sf Go.Proofs.YtigbknmiidhblaaGreatDoor.dr
open Go.Proofs.YtigbknmiidhblaaGreatDoor.cur (CurAt CodeAt Kp Only below_calls pick_calls new_calls cur_new)
open Go.Proofs.YtigbknmiidhblaaGreatDoor.vers (new2)
open Go.Proofs.YtigbknmiidhblaaGreatDoor.sl (Ver)
set_option linter.unusedVariables false
set_option linter.unusedSimpArgs false
section
variable {w W W' : World} {B b base tb n c n2 c2 : Nat} {x : Hd} {A A2 : Option Addr} {R S : List E2}
theorem Bo.kp (h : Bo W base tb x A n c R A2 n2 c2 S) (hb : b < base) (hk : Kp B b W W') : Bo W' base tb x A n c R A2 n2 c2 S :=
  ⟨h.bx.of_block (hk.gr.block tb h.lt (fun e => by injection e with e; have := h.le; omega)), ⟨own_same h.own.1 fun g hg => by
    obtain ⟨h1, cur, hh⟩ := own_block h.own.1 hg
    exact hk.gr.block g (heap_lt hh) (fun e => by injection e with e; omega), own_same h.own.2 fun g hg => by
    obtain ⟨h1, cur, hh⟩ := own_block h.own.2 hg
    exact hk.gr.block g (heap_lt hh) (fun e => by injection e with e; omega)⟩, h.le⟩
theorem put9_cell {V : World} {bb : Nat} {x : Hd} {u v : Value} {p : Addr} (h : p.block ≠ bb) : World.cell? (World.setCell (World.setCell (World.setCell (World.setCell (World.setCell (World.setCell (World.setCell (World.setCell (World.setCell V ⟨bb, 0, none⟩ (.int .i64 x.i)) ⟨bb, 1, none⟩ (.int .i64 x.s)) ⟨bb, 2, none⟩ (.int .i64 x.t)) ⟨bb, 3, none⟩ (.int .i64 x.b)) ⟨bb, 4, none⟩ (.int .i64 x.l)) ⟨bb, 5, none⟩ (.int .i64 x.h)) ⟨bb, 6, none⟩ (.int .i64 x.c)) ⟨bb, 7, none⟩ u) ⟨bb, 8, none⟩ v) p = V.cell? p := Go.Proofs.YtigbknmiidhblaaGreatDoor.lt.put_cell h
end
section
variable {w W W' : World} {rb vb base tb n c n2 c2 : Nat} {x : Hd} {A A2 : Option Addr} {R S : List E2} {v : Ver}
/-- what a caller sees when the two results have been laid -/
def Fin (w W' : World) (rb vb : Nat) (x : Hd) (A : Option Addr) (n c : Nat) (R : List E2) (A2 : Option Addr) (n2 c2 : Nat) (S : List E2) (v : Ver) : Prop :=
  TB W' rb x (.slice A n c) (.slice A2 n2 c2) ∧ Go.Proofs.YtigbknmiidhblaaGreatDoor.sl.At W' vb 0 v ∧ OwnT W' w.heap.size (.slice A n c) n R (.slice A2 n2 c2) n2 S ∧ Below w.heap.size w W'
theorem fin_95 (hz : Bx W rb ⟨0, 0, 0, 0, 0, 0, 0⟩ (.slice none 0 0) (.slice none 0 0)) (hv : Vx W vb ⟨0, 0, 0, 0, 0⟩) (hB : Bo W base tb x A n c R A2 n2 c2 S) (hbel : Below w.heap.size w W) (h1 : w.heap.size ≤ rb) (h2 : w.heap.size ≤ vb) (hne : rb ≠ vb) (h3 : rb < base) (h4 : vb < base) (hw : w.heap.size ≤ base)
    (hW : (World.setCell (World.setCell (World.setCell (World.setCell (World.setCell (World.setCell (World.setCell (World.setCell (World.setCell (World.setCell (World.setCell (World.setCell (World.setCell (World.setCell W ⟨rb, 0, none⟩ (.int .i64 x.i)) ⟨rb, 1, none⟩ (.int .i64 x.s)) ⟨rb, 2, none⟩ (.int .i64 x.t)) ⟨rb, 3, none⟩ (.int .i64 x.b)) ⟨rb, 4, none⟩ (.int .i64 x.l)) ⟨rb, 5, none⟩ (.int .i64 x.h)) ⟨rb, 6, none⟩ (.int .i64 x.c)) ⟨rb, 7, none⟩ (.slice A n c)) ⟨rb, 8, none⟩ (.slice A2 n2 c2)) ⟨vb, 0, none⟩ (.int .i64 v.a)) ⟨vb, 1, none⟩ (.int .i64 v.b)) ⟨vb, 2, none⟩ (.int .i64 v.c)) ⟨vb, 3, none⟩ (.int .i64 v.d)) ⟨vb, 4, none⟩ (.int .i64 v.e)) = W') : Fin w W' rb vb x A n c R A2 n2 c2 S v := by
  have o1 := off_put W rb x (.slice A n c) (.slice A2 n2 c2)
  have b1 := hz.put x (.slice A n c) (.slice A2 n2 c2)
  have v1 := hv.of_block (o1.block vb (fun e => hne e.symm))
  have w1 := hB.own.off o1 h3
  have l1 := hbel.trans (o1.below h1)
  generalize (World.setCell (World.setCell (World.setCell (World.setCell (World.setCell (World.setCell (World.setCell (World.setCell (World.setCell W ⟨rb, 0, none⟩ (.int .i64 x.i)) ⟨rb, 1, none⟩ (.int .i64 x.s)) ⟨rb, 2, none⟩ (.int .i64 x.t)) ⟨rb, 3, none⟩ (.int .i64 x.b)) ⟨rb, 4, none⟩ (.int .i64 x.l)) ⟨rb, 5, none⟩ (.int .i64 x.h)) ⟨rb, 6, none⟩ (.int .i64 x.c)) ⟨rb, 7, none⟩ (.slice A n c)) ⟨rb, 8, none⟩ (.slice A2 n2 c2)) = W1 at o1 b1 v1 w1 l1 hW
  have o2 := off5 W1 vb (.int .i64 v.a) (.int .i64 v.b) (.int .i64 v.c) (.int .i64 v.d) (.int .i64 v.e)
  have v2 := v1.put v
  rw [hW] at o2 v2
  exact ⟨(b1.of_block (o2.block rb hne)).tb, v2.at_, (w1.off o2 h4).more hw, l1.trans (o2.below h2)⟩
theorem fin_59 (hz : Bx W rb ⟨0, 0, 0, 0, 0, 0, 0⟩ (.slice none 0 0) (.slice none 0 0)) (hv : Vx W vb ⟨0, 0, 0, 0, 0⟩) (hB : Bo W base tb x A n c R A2 n2 c2 S) (hbel : Below w.heap.size w W) (h1 : w.heap.size ≤ rb) (h2 : w.heap.size ≤ vb) (hne : rb ≠ vb) (h3 : rb < base) (h4 : vb < base) (hw : w.heap.size ≤ base)
    (hW : (World.setCell (World.setCell (World.setCell (World.setCell (World.setCell (World.setCell (World.setCell (World.setCell (World.setCell (World.setCell (World.setCell (World.setCell (World.setCell (World.setCell W ⟨vb, 0, none⟩ (.int .i64 v.a)) ⟨vb, 1, none⟩ (.int .i64 v.b)) ⟨vb, 2, none⟩ (.int .i64 v.c)) ⟨vb, 3, none⟩ (.int .i64 v.d)) ⟨vb, 4, none⟩ (.int .i64 v.e)) ⟨rb, 0, none⟩ (.int .i64 x.i)) ⟨rb, 1, none⟩ (.int .i64 x.s)) ⟨rb, 2, none⟩ (.int .i64 x.t)) ⟨rb, 3, none⟩ (.int .i64 x.b)) ⟨rb, 4, none⟩ (.int .i64 x.l)) ⟨rb, 5, none⟩ (.int .i64 x.h)) ⟨rb, 6, none⟩ (.int .i64 x.c)) ⟨rb, 7, none⟩ (.slice A n c)) ⟨rb, 8, none⟩ (.slice A2 n2 c2)) = W') : Fin w W' rb vb x A n c R A2 n2 c2 S v := by
  have o1 := off5 W vb (.int .i64 v.a) (.int .i64 v.b) (.int .i64 v.c) (.int .i64 v.d) (.int .i64 v.e)
  have v1 := hv.put v
  have b1 := hz.of_block (o1.block rb hne)
  have w1 := hB.own.off o1 h4
  have l1 := hbel.trans (o1.below h2)
  generalize (World.setCell (World.setCell (World.setCell (World.setCell (World.setCell W ⟨vb, 0, none⟩ (.int .i64 v.a)) ⟨vb, 1, none⟩ (.int .i64 v.b)) ⟨vb, 2, none⟩ (.int .i64 v.c)) ⟨vb, 3, none⟩ (.int .i64 v.d)) ⟨vb, 4, none⟩ (.int .i64 v.e)) = W1 at o1 b1 v1 w1 l1 hW
  have o2 := off_put W1 rb x (.slice A n c) (.slice A2 n2 c2)
  have b2 := b1.put x (.slice A n c) (.slice A2 n2 c2)
  rw [hW] at o2 b2
  exact ⟨b2.tb, (v1.of_block (o2.block vb (fun e => hne e.symm))).at_, (w1.off o2 h3).more hw, l1.trans (o2.below h1)⟩
end
/-- a drawn transaction, a key, a version -/
def DTR (w : World) (e : Ending) (w' : World) : Prop :=
  ∃ (x : Hd) (A : Option Addr) (n c : Nat) (R : List E2) (A2 : Option Addr) (n2 c2 : Nat) (S : List E2) (k : Int) (v : Ver), e = .returned (.tuple #[txv x (.slice A n c) (.slice A2 n2 c2), .int .i64 k, .agg #[.int .i64 v.a, .int .i64 v.b, .int .i64 v.c, .int .i64 v.d, .int .i64 v.e]]) ∧ n ≤ 5 ∧ n2 ≤ 5 ∧ OwnT w' w.heap.size (.slice A n c) n R (.slice A2 n2 c2) n2 S ∧ Below w.heap.size w w'
end Go.Proofs.YtigbknmiidhblaaGreatDoor.drt
/- The model's l6Pair and DrawRefreshHigh: a drawn store and a drawn transaction. -/
namespace Go.Proofs.YtigbknmiidhblaaGreatDoor.dpr
open Go.ChangeShapes Go.WideShapes Go.ChangeAt Go.RowKit
open Go.Proofs.YtigbknmiidhblaaGreatDoor.el2 Go.Proofs.YtigbknmiidhblaaGreatDoor.tx Go.Proofs.YtigbknmiidhblaaGreatDoor.ap Go.Proofs.YtigbknmiidhblaaGreatDoor.bx Go.Proofs.YtigbknmiidhblaaGreatDoor.ad Go.Proofs.YtigbknmiidhblaaGreatDoor.sf Go.Proofs.YtigbknmiidhblaaGreatDoor.dr Go.Proofs.YtigbknmiidhblaaGreatDoor.drt
open Go.Proofs.YtigbknmiidhblaaGreatDoor.cur (CurAt CodeAt Kp Only below_calls pick_calls new_calls cur_new)
open Go.Proofs.YtigbknmiidhblaaGreatDoor.vers (new2)
open Go.Proofs.YtigbknmiidhblaaGreatDoor.sl (Ver)
open Go.Proofs.YtigbknmiidhblaaGreatDoor.st (Rs)
set_option linter.unusedVariables false
set_option linter.unusedSimpArgs false
theorem cell1 {V : World} {bb : Nat} {u : Value} {p : Addr} (h : p.block ≠ bb) : World.cell? (World.setCell V ⟨bb, 0, none⟩ u) p = V.cell? p :=
  World.cell?_of_block (a := p) (((Off.refl bb V).setCell (p := ⟨bb, 0, none⟩) rfl u).block _ h)
theorem cell_d (W : World) (p : Addr) : W.drew.cell? p = W.cell? p := rfl
theorem cell1d {V : World} {bb : Nat} {u : Value} {p : Addr} (h : p.block ≠ bb) : World.cell? (World.drew (World.setCell V ⟨bb, 0, none⟩ u)) p = V.cell? p := (cell_d _ _).trans (cell1 h)
theorem put9_celld {V : World} {bb : Nat} {x : Hd} {u v : Value} {p : Addr} (h : p.block ≠ bb) : World.cell? (World.drew (World.setCell (World.setCell (World.setCell (World.setCell (World.setCell (World.setCell (World.setCell (World.setCell (World.setCell V ⟨bb, 0, none⟩ (.int .i64 x.i)) ⟨bb, 1, none⟩ (.int .i64 x.s)) ⟨bb, 2, none⟩ (.int .i64 x.t)) ⟨bb, 3, none⟩ (.int .i64 x.b)) ⟨bb, 4, none⟩ (.int .i64 x.l)) ⟨bb, 5, none⟩ (.int .i64 x.h)) ⟨bb, 6, none⟩ (.int .i64 x.c)) ⟨bb, 7, none⟩ u) ⟨bb, 8, none⟩ v)) p = V.cell? p := (cell_d _ _).trans (put9_cell h)
/-- a box of a store, to be written -/
def Sx (w : World) (b : Nat) (u : Value) : Prop := w.rowIs b 26 1 (fun _ => u)
section
variable {w w' : World} {b : Nat} {u v : Value}
theorem Sx.cell (h : Sx w b u) : w.cell? ⟨b, 0, none⟩ = some u := World.rowIs.cell h (show 0 < 1 by decide)
theorem Sx.fz (h : Sx w b u) : w.frozen? ⟨b, 0, none⟩ = false := World.rowIs.frozen h 0
theorem Sx.lt (h : Sx w b u) : b < w.heap.size := World.rowIs.lt h
theorem Sx.of_block (h : Sx w b u) (hk : w'.heap[b]? = w.heap[b]?) : Sx w' b u := World.rowIs.of_block h hk
theorem Sx.new (w : World) (u : Value) : Sx (w.alloc (.cells #[u] 26)) w.heap.size u := World.rowIs_alloc w #[u] 26 (fun _ => u) (fun i hi => by
  have : i = 0 := by simp at hi; exact hi
  subst this; rfl)
theorem Sx.put (h : Sx w b u) (v : Value) : Sx (w.setCell ⟨b, 0, none⟩ v) b v := (World.rowIs.set h 0 v).congr (fun i hi => by
  have : i = 0 := by omega
  subst this; rfl)
end
section
variable {w W W' : World} {sb rb base tb n c n2 c2 N cN : Nat} {x : Hd} {A A2 D : Option Addr} {R S : List E2} {v : Ver}
/-- the two results have been laid: what else is there stays -/
def Fin6 (w W W' : World) (sb rb : Nat) (x : Hd) (A : Option Addr) (n c : Nat) (R : List E2) (A2 : Option Addr) (n2 c2 : Nat) (S : List E2) (D : Option Addr) (N cN base : Nat) : Prop :=
  W'.cell? ⟨sb, 0, none⟩ = some (.slice D N cN) ∧ TB W' rb x (.slice A n c) (.slice A2 n2 c2) ∧ OwnT W' base (.slice A n c) n R (.slice A2 n2 c2) n2 S ∧ Below w.heap.size w W' ∧ W'.heap.size = W.heap.size ∧ ∀ k, k ≠ sb → k ≠ rb → W'.heap[k]? = W.heap[k]?
theorem fin_19 (hs : Sx W sb (.slice none 0 0)) (hz : Bx W rb ⟨0, 0, 0, 0, 0, 0, 0⟩ (.slice none 0 0) (.slice none 0 0)) (hB : OwnT W base (.slice A n c) n R (.slice A2 n2 c2) n2 S) (hbel : Below w.heap.size w W) (h1 : w.heap.size ≤ sb) (h2 : w.heap.size ≤ rb) (hne : sb ≠ rb) (h3 : rb < base) (h4 : sb < base)
    (hW : (World.setCell (World.setCell (World.setCell (World.setCell (World.setCell (World.setCell (World.setCell (World.setCell (World.setCell (World.setCell W ⟨sb, 0, none⟩ (.slice D N cN)) ⟨rb, 0, none⟩ (.int .i64 x.i)) ⟨rb, 1, none⟩ (.int .i64 x.s)) ⟨rb, 2, none⟩ (.int .i64 x.t)) ⟨rb, 3, none⟩ (.int .i64 x.b)) ⟨rb, 4, none⟩ (.int .i64 x.l)) ⟨rb, 5, none⟩ (.int .i64 x.h)) ⟨rb, 6, none⟩ (.int .i64 x.c)) ⟨rb, 7, none⟩ (.slice A n c)) ⟨rb, 8, none⟩ (.slice A2 n2 c2)) = W') : Fin6 w W W' sb rb x A n c R A2 n2 c2 S D N cN base := by
  have o1 := (Off.refl sb W).setCell (p := ⟨sb, 0, none⟩) rfl (.slice D N cN)
  have s1 := hs.put (.slice D N cN)
  have z1 := hz.of_block (o1.block rb (fun e => hne e.symm))
  have w1 := hB.off o1 h4
  have l1 := hbel.trans (o1.below h1)
  have z1s := o1.size
  generalize (World.setCell W ⟨sb, 0, none⟩ (.slice D N cN)) = W1 at o1 s1 z1 w1 l1 hW z1s
  have o2 := off_put W1 rb x (.slice A n c) (.slice A2 n2 c2)
  have z2 := z1.put x (.slice A n c) (.slice A2 n2 c2)
  rw [hW] at o2 z2
  exact ⟨(s1.of_block (o2.block sb hne)).cell, z2.tb, w1.off o2 h3, l1.trans (o2.below h2), o2.size.trans z1s, fun k k1 k2 => (o2.block k k2).trans (o1.block k k1)⟩
theorem fin_91 (hs : Sx W sb (.slice none 0 0)) (hz : Bx W rb ⟨0, 0, 0, 0, 0, 0, 0⟩ (.slice none 0 0) (.slice none 0 0)) (hB : OwnT W base (.slice A n c) n R (.slice A2 n2 c2) n2 S) (hbel : Below w.heap.size w W) (h1 : w.heap.size ≤ sb) (h2 : w.heap.size ≤ rb) (hne : sb ≠ rb) (h3 : rb < base) (h4 : sb < base)
    (hW : (World.setCell (World.setCell (World.setCell (World.setCell (World.setCell (World.setCell (World.setCell (World.setCell (World.setCell (World.setCell W ⟨rb, 0, none⟩ (.int .i64 x.i)) ⟨rb, 1, none⟩ (.int .i64 x.s)) ⟨rb, 2, none⟩ (.int .i64 x.t)) ⟨rb, 3, none⟩ (.int .i64 x.b)) ⟨rb, 4, none⟩ (.int .i64 x.l)) ⟨rb, 5, none⟩ (.int .i64 x.h)) ⟨rb, 6, none⟩ (.int .i64 x.c)) ⟨rb, 7, none⟩ (.slice A n c)) ⟨rb, 8, none⟩ (.slice A2 n2 c2)) ⟨sb, 0, none⟩ (.slice D N cN)) = W') : Fin6 w W W' sb rb x A n c R A2 n2 c2 S D N cN base := by
  have o1 := off_put W rb x (.slice A n c) (.slice A2 n2 c2)
  have z1 := hz.put x (.slice A n c) (.slice A2 n2 c2)
  have s1 := hs.of_block (o1.block sb hne)
  have w1 := hB.off o1 h3
  have l1 := hbel.trans (o1.below h2)
  have z1s := o1.size
  generalize (World.setCell (World.setCell (World.setCell (World.setCell (World.setCell (World.setCell (World.setCell (World.setCell (World.setCell W ⟨rb, 0, none⟩ (.int .i64 x.i)) ⟨rb, 1, none⟩ (.int .i64 x.s)) ⟨rb, 2, none⟩ (.int .i64 x.t)) ⟨rb, 3, none⟩ (.int .i64 x.b)) ⟨rb, 4, none⟩ (.int .i64 x.l)) ⟨rb, 5, none⟩ (.int .i64 x.h)) ⟨rb, 6, none⟩ (.int .i64 x.c)) ⟨rb, 7, none⟩ (.slice A n c)) ⟨rb, 8, none⟩ (.slice A2 n2 c2)) = W1 at o1 s1 z1 w1 l1 hW z1s
  have o2 := (Off.refl sb W1).setCell (p := ⟨sb, 0, none⟩) rfl (.slice D N cN)
  have s2 := s1.put (.slice D N cN)
  rw [hW] at o2 s2
  exact ⟨s2.cell, (z1.of_block (o2.block rb (fun e => hne e.symm))).tb, w1.off o2 h4, l1.trans (o2.below h1), o2.size.trans z1s, fun k k1 k2 => (o2.block k k1).trans (o1.block k k2)⟩
end
theorem Fin6.drew {w W W' : World} {sb rb base n c n2 c2 N cN : Nat} {x : Hd} {A A2 D : Option Addr} {R S : List E2} (h : Fin6 w W W' sb rb x A n c R A2 n2 c2 S D N cN base) : Fin6 w W W'.drew sb rb x A n c R A2 n2 c2 S D N cN base :=
  ⟨h.1, h.2.1, h.2.2.1, h.2.2.2.1.drew, h.2.2.2.2.1, h.2.2.2.2.2⟩
/-- a drawn store and a drawn transaction, the cursor beside them -/
def DP (a : Option Addr) (len cap : Nat) (w : World) (e : Ending) (w' : World) : Prop :=
  ∃ (D : Option Addr) (N cN : Nat) (C : List (List Ver)) (x : Hd) (A : Option Addr) (n c : Nat) (R : List E2) (A2 : Option Addr) (n2 c2 : Nat) (S : List E2), e = .returned (.tuple #[.pointer (some ⟨w.heap.size + 2, 0, none⟩), .agg #[.slice D N cN], txv x (.slice A n c) (.slice A2 n2 c2)]) ∧ (N ≤ 6 ∧ ∀ l ∈ C, List.length l ≤ 5) ∧ n ≤ 5 ∧ n2 ≤ 5 ∧
    (∀ W : World, w'.heap.size ≤ W.heap.size → (∀ q, w.heap.size + 3 ≤ q → q < w'.heap.size → W.heap[q]? = w'.heap[q]?) → Rs W W.heap.size D N C) ∧ OwnT w' (w.heap.size + 3) (.slice A n c) n R (.slice A2 n2 c2) n2 S ∧ CurAt w' (w.heap.size + 2) a len cap ∧ Below w.heap.size w w' ∧ w.heap.size + 3 ≤ w'.heap.size
theorem CurAt_of {w w' : World} {b : Nat} {a : Option Addr} {len cap : Nat} (h : CurAt w b a len cap) (hk : w'.heap[b]? = w.heap[b]?) : CurAt w' b a len cap := by
  obtain ⟨i, g, h0, h1, hh⟩ := h
  exact ⟨i, g, h0, h1, hk.trans hh⟩
set_option maxRecDepth 100000 in
set_option maxHeartbeats 6400000 in
theorem draw_pair (a : Option Addr) (len cap : Nat) (w : World) (hl : len ≤ 1048576) (hcode : CodeAt w w.heap.size a len) :
    Calls Tryz.prog 67 #[.slice a len cap] w (DP a len cap w) := by
  have HN := Lib.hid (fun W (hb : Below w.heap.size w W) => new_calls w.heap.size a len cap W hl (hcode.below (Nat.le_refl _) hb) hb.size)
  have HC := Lib.hid hcode
  clear hcode
  go_enter Tryz.func67, Tryz.ntmps67
  go_wp2_with fail
  have hb0 := new2 w (.cells #[.slice none 0 0] 26) (.cells #[.int .i64 0, .int .i64 0, .int .i64 0, .int .i64 0, .int .i64 0, .int .i64 0, .int .i64 0, .slice none 0 0, .slice none 0 0] 30)
  have zs : Sx ((w.alloc (.cells #[.slice none 0 0] 26)).alloc (.cells #[.int .i64 0, .int .i64 0, .int .i64 0, .int .i64 0, .int .i64 0, .int .i64 0, .int .i64 0, .slice none 0 0, .slice none 0 0] 30)) w.heap.size (.slice none 0 0) := (Sx.new w (.slice none 0 0)).of_block ((new1 (w.alloc (.cells #[.slice none 0 0] 26)) (.cells #[.int .i64 0, .int .i64 0, .int .i64 0, .int .i64 0, .int .i64 0, .int .i64 0, .int .i64 0, .slice none 0 0, .slice none 0 0] 30)).block w.heap.size (by simp))
  have zr := Bx.zero (w.alloc (.cells #[.slice none 0 0] 26))
  rw [show (w.alloc (.cells #[.slice none 0 0] 26)).heap.size = w.heap.size + 1 by simp] at zr
  have hs0 : ((w.alloc (.cells #[.slice none 0 0] 26)).alloc (.cells #[.int .i64 0, .int .i64 0, .int .i64 0, .int .i64 0, .int .i64 0, .int .i64 0, .int .i64 0, .slice none 0 0, .slice none 0 0] 30)).heap.size = w.heap.size + 2 := by simp
  generalize (w.alloc _).alloc _ = w0 at hb0 zs zr hs0 ⊢
  have HB0 := Lib.hid hb0
  clear hb0
  refine (HN.out w0 HB0.out).mono ?_
  rintro e W1 ⟨h, rfl, rfl⟩
  have hcur := cur_new w0 a len cap h
  have hb1 := HB0.out.alloc (by omega) (.cells #[.slice a len cap, .int .i64 0, .int .i64 h] 150)
  have hcd := HC.out.below (B' := w.heap.size) (Nat.le_refl _) hb1
  have zs1 := zs.of_block ((new1 w0 (.cells #[.slice a len cap, .int .i64 0, .int .i64 h] 150)).block w.heap.size (by omega))
  have zr1 := zr.alloc (.cells #[.slice a len cap, .int .i64 0, .int .i64 h] 150)
  have hs1 : w.heap.size + 3 ≤ (w0.alloc (.cells #[.slice a len cap, .int .i64 0, .int .i64 h] 150)).heap.size := by simp; omega
  have hs1' : (w0.alloc (.cells #[.slice a len cap, .int .i64 0, .int .i64 h] 150)).heap.size ≤ w.heap.size + 3 := by simp; omega
  simp only [hs0] at hcur ⊢
  generalize w0.alloc (.cells #[.slice a len cap, .int .i64 0, .int .i64 h] 150) = W1 at hcur hcd hb1 zs1 zr1 hs1 hs1' ⊢
  have HA := Lib.hid (fun W (hW : CurAt W (w.heap.size + 2) a len cap) (hO : Kp w.heap.size (w.heap.size + 2) W1 W) => Go.Proofs.YtigbknmiidhblaaGreatDoor.dany.draw_anyt (w.heap.size + 2) w.heap.size a len cap W hl hW (hcd.below (Nat.le_refl _) hO.bel) (by omega))
  have HQ := Lib.hid (fun W (hW : CurAt W (w.heap.size + 2) a len cap) (hO : Kp w.heap.size (w.heap.size + 2) W1 W) => once_calls (w.heap.size + 2) w.heap.size a len cap 8 W hl hW (hcd.below (Nat.le_refl _) hO.bel) (by omega) (by omega))
  have HOn := Lib.hid (fun W (hW : CurAt W (w.heap.size + 2) a len cap) (hO : Kp w.heap.size (w.heap.size + 2) W1 W) (D : Option Addr) (N cN : Nat) (C : List (List Ver)) (hN : N ≤ 6) (hS : ∀ V : World, Kp w.heap.size (w.heap.size + 2) W V → Rs V V.heap.size D N C) => Go.Proofs.YtigbknmiidhblaaGreatDoor.don.draw_on (w.heap.size + 2) w.heap.size a len cap W hl hW (hcd.below (Nat.le_refl _) hO.bel) (by omega) (D := D) (N := N) (cN := cN) (C := C) hN hS)
  have HX := Lib.hid (Go.Proofs.YtigbknmiidhblaaGreatDoor.draws.draw_spoiled (w.heap.size + 2) w.heap.size a len cap W1 hl hcur hcd (by omega))
  have HB1 := Lib.hid hb1
  have ZS1 := Lib.hid zs1
  have ZR1 := Lib.hid zr1
  have hbw : w.heap.size + 2 < W1.heap.size := hcur.lt
  clear hcur hcd hb1 zs zr zs1 zr1 HN HC HB0 hs0
  go_wp2_with fail
  refine HX.out.mono ?_
  rintro e W2 ⟨D, N, cN, C, rfl, hN, hsh, hrs, hcu2, hkp2⟩
  have HSH := Lib.hid hsh
  clear hsh
  have HRS := Lib.hid hrs
  have hz2 := hkp2.size
  have ST3 := Lib.hid (st.one_cell W2 (.slice D N cN) 26)
  have k3 := hkp2.alloc (show w.heap.size ≤ W1.heap.size by omega) (.cells #[.slice D N cN] 26)
  have kd3 := (Kp.refl w.heap.size (w.heap.size + 2) W2).alloc (show w.heap.size ≤ W2.heap.size by omega) (.cells #[.slice D N cN] 26)
  have c3 := hcu2.alloc (.cells #[.slice D N cN] 26)
  have hl3 : W2.heap.size < (W2.alloc (.cells #[.slice D N cN] 26)).heap.size := by simp
  have st3 := ST3.out
  clear hrs hcu2 hkp2 HX
  go_wp2_with fail
  generalize hsb : W2.heap.size = sb at ST3 st3 hz2 hl3 ⊢
  generalize W2.alloc _ = W3 at ST3 st3 k3 kd3 c3 hl3 ⊢
  have K3 := Lib.hid k3
  have KD3 := Lib.hid kd3
  have C3 := Lib.hid c3
  clear k3 kd3 c3 st3
  refine (HOn.out W3 C3.out K3.out D N cN C hN (fun W hW => HRS.out W (by have := (KD3.out.trans hW).size; omega) (fun q h1 h2 => (KD3.out.trans hW).gr.block q h2 (fun e => by injection e with e; omega)))).mono ?_
  rintro e W4 ⟨x, A, n, c, R, A2, n2, c2, S, rfl, hn, hn2, hown, hcu4, hkp4⟩
  have hz4 := hkp4.size
  have bo5 : Bo (W4.alloc (.cells #[.int .i64 x.i, .int .i64 x.s, .int .i64 x.t, .int .i64 x.b, .int .i64 x.l, .int .i64 x.h, .int .i64 x.c, .slice A n c, .slice A2 n2 c2] 30)) W3.heap.size W4.heap.size x A n c R A2 n2 c2 S := ⟨Bx.new W4 x _ _, hown.keep (el2.new1 W4 _), hz4⟩
  have k5 := (K3.out.trans hkp4).alloc (show w.heap.size ≤ W1.heap.size by omega) (.cells #[.int .i64 x.i, .int .i64 x.s, .int .i64 x.t, .int .i64 x.b, .int .i64 x.l, .int .i64 x.h, .int .i64 x.c, .slice A n c, .slice A2 n2 c2] 30)
  have kd5 := (KD3.out.trans hkp4).alloc (show w.heap.size ≤ W2.heap.size by omega) (.cells #[.int .i64 x.i, .int .i64 x.s, .int .i64 x.t, .int .i64 x.b, .int .i64 x.l, .int .i64 x.h, .int .i64 x.c, .slice A n c, .slice A2 n2 c2] 30)
  have c5 := hcu4.alloc (.cells #[.int .i64 x.i, .int .i64 x.s, .int .i64 x.t, .int .i64 x.b, .int .i64 x.l, .int .i64 x.h, .int .i64 x.c, .slice A n c, .slice A2 n2 c2] 30)
  have ST5 := Lib.hid (((hkp4.alloc (show w.heap.size ≤ W3.heap.size by omega) (.cells #[.int .i64 x.i, .int .i64 x.s, .int .i64 x.t, .int .i64 x.b, .int .i64 x.l, .int .i64 x.h, .int .i64 x.c, .slice A n c, .slice A2 n2 c2] 30)).cell (p := ⟨sb, 0, none⟩) (by simp only; omega) (by simp only; omega)).trans ST3.out)
  clear hown hcu4 hkp4
  go_wp2_with fail
  generalize htb : W4.heap.size = tb at bo5 hz4 ⊢
  generalize W4.alloc _ = W5 at bo5 k5 kd5 c5 ST5 ⊢
  have K5 := Lib.hid k5
  have KD5 := Lib.hid kd5
  have C5 := Lib.hid c5
  have B5 := Lib.hid bo5
  clear bo5 k5 kd5 c5 htb ST3 K3 KD3 C3
  refine (HQ.out W5 C5.out K5.out).mono ?_
  rintro e W6 ⟨y, rfl, hc6, ho6⟩
  have K6 := Lib.hid (K5.out.only ho6 (by omega))
  have KD6 := Lib.hid (KD5.out.only ho6 (by omega))
  have C6 := Lib.hid hc6
  have B6 := Lib.hid (Bo.only B5.out (by omega) ho6)
  have ST6 := Lib.hid ((World.cell?_of_block (w := W5) (a := ⟨sb, 0, none⟩) (ho6.block sb (by omega))).trans ST5.out)
  clear hc6 ho6 K5 KD5 C5 B5 ST5
  cases y
  · go_wp2_with fail
    have ZS6 := ZS1.out.of_block (K6.out.gr.block w.heap.size (by omega) (fun e => by injection e with e; omega))
    have ZR6 := ZR1.out.of_block (K6.out.gr.block (w.heap.size + 1) (by omega) (fun e => by injection e with e; omega))
    obtain ⟨t0, t1, t2, t3, t4, t5, t6, t7, t8⟩ := B6.out.bx.tb
    have st := ST6.out
    have s0 := ZS6.cell
    have g0 := ZS6.fz
    obtain ⟨z0, z1, z2, z3, z4, z5, z6, z7, z8⟩ := ZR6.tb
    have y0 := ZR6.fz 0
    have y1 := ZR6.fz 1
    have y2 := ZR6.fz 2
    have y3 := ZR6.fz 3
    have y4 := ZR6.fz 4
    have y5 := ZR6.fz 5
    have y6 := ZR6.fz 6
    have y7 := ZR6.fz 7
    have y8 := ZR6.fz 8
    have hbt := B6.out.lt
    try go_wp2_with fail
    go_region_held3 (fun w' => w'.cell? ⟨sb, 0, none⟩ = some (.slice D N cN) ∧ w'.cell? ⟨tb, 0, none⟩ = some (.int .i64 x.i) ∧ w'.cell? ⟨tb, 1, none⟩ = some (.int .i64 x.s) ∧ w'.cell? ⟨tb, 2, none⟩ = some (.int .i64 x.t) ∧ w'.cell? ⟨tb, 3, none⟩ = some (.int .i64 x.b) ∧ w'.cell? ⟨tb, 4, none⟩ = some (.int .i64 x.l) ∧ w'.cell? ⟨tb, 5, none⟩ = some (.int .i64 x.h) ∧ w'.cell? ⟨tb, 6, none⟩ = some (.int .i64 x.c) ∧ w'.cell? ⟨tb, 7, none⟩ = some (.slice A n c) ∧ w'.cell? ⟨tb, 8, none⟩ = some (.slice A2 n2 c2)) (first | ((repeat' apply And.intro) <;> first | with_reducible exact (put9_celld (by simp only; omega)).trans (by assumption) | with_reducible exact (cell1d (by simp only; omega)).trans (by assumption) | with_reducible exact (put9_cell (by simp only; omega)).trans (by assumption) | with_reducible exact (cell1 (by simp only; omega)).trans (by assumption) | with_reducible exact (put9_celld (by simp only; omega)).trans ((cell1 (by simp only; omega)).trans (by assumption)) | with_reducible exact (cell1d (by simp only; omega)).trans ((put9_cell (by simp only; omega)).trans (by assumption)) | with_reducible exact (put9_cell (by simp only; omega)).trans ((cell1 (by simp only; omega)).trans (by assumption)) | with_reducible exact (cell1 (by simp only; omega)).trans ((put9_cell (by simp only; omega)).trans (by assumption))) | go_keep) (fail)
    all_goals
      have hbel := HB1.out.trans K6.out.bel
      have hF := fun W' hW => fin_19 (W' := W') (x := x) (A := A) (n := n) (c := c) (R := R) (A2 := A2) (n2 := n2) (c2 := c2) (S := S) (D := D) (N := N) (cN := cN) ZS6 ZR6 (B6.out.own.more (show w.heap.size + 3 ≤ _ by omega)) hbel (Nat.le_refl _) (Nat.le_succ _) (by omega) (by omega) (by omega) hW
      have hG := fun W' hW => fin_91 (W' := W') (x := x) (A := A) (n := n) (c := c) (R := R) (A2 := A2) (n2 := n2) (c2 := c2) (S := S) (D := D) (N := N) (cN := cN) ZS6 ZR6 (B6.out.own.more (show w.heap.size + 3 ≤ _ by omega)) hbel (Nat.le_refl _) (Nat.le_succ _) (by omega) (by omega) (by omega) hW
      clear t0 t1 t2 t3 t4 t5 t6 t7 t8 st s0 g0 z0 z1 z2 z3 z4 z5 z6 z7 z8 y0 y1 y2 y3 y4 y5 y6 y7 y8 hbel
      try go_wp2_with fail
      generalize hW : World.setCell _ _ _ = W8x
      obtain ⟨q9, ⟨q0, q1, q2, q3, q4, q5, q6, q7, q8⟩, _⟩ := (by first | exact hF W8x hW | exact hG W8x hW : Fin6 w W6 W8x w.heap.size (w.heap.size + 1) x A n c R A2 n2 c2 S D N cN (w.heap.size + 3))
      obtain ⟨e9, ⟨e0, e1, e2, e3, e4, e5, e6, e7, e8⟩, hO, hB9, hz9, hk9⟩ := (by first | exact (hF W8x hW).drew | exact (hG W8x hW).drew : Fin6 w W6 W8x.drew w.heap.size (w.heap.size + 1) x A n c R A2 n2 c2 S D N cN (w.heap.size + 3))
      have hcur9 := CurAt_of C6.out (hk9 (w.heap.size + 2) (by omega) (by omega))
      have hrs9 : ∀ W : World, W8x.drew.heap.size ≤ W.heap.size → (∀ q, w.heap.size + 3 ≤ q → q < W8x.drew.heap.size → W.heap[q]? = W8x.drew.heap[q]?) → Rs W W.heap.size D N C := fun W hs hq => HRS.out W (by have := KD6.out.size; omega) (fun q h1 h2 => (hq q (by omega) (by have := KD6.out.size; omega)).trans ((hk9 q (by omega) (by omega)).trans (KD6.out.gr.block q h2 (fun e => by injection e with e; omega))))
      exact bodyPost_ret (v := .tuple #[.pointer (some ⟨w.heap.size + 2, 0, none⟩), .agg #[.slice D N cN], txv x (.slice A n c) (.slice A2 n2 c2)]) (by simp [results, Tryz.results67, go_sem, e0, e1, e2, e3, e4, e5, e6, e7, e8, e9, q0, q1, q2, q3, q4, q5, q6, q7, q8, q9]) rfl ⟨D, N, cN, C, x, A, n, c, R, A2, n2, c2, S, rfl, ⟨hN, HSH.out⟩, by omega, by omega, hrs9, hO, hcur9, hB9, by have := K6.out.size; omega⟩
  · go_wp2_with fail
    refine (HA.out W6 C6.out K6.out).mono ?_
    rintro e W7 ⟨x', A', n', c', R', A2', n2', c2', S', rfl, hn', hn2', hown, hcu7, hkp7⟩
    have hz7 := hkp7.size
    have bx7 := Bo.kp B6.out (by omega) hkp7
    have hbt6 := B6.out.lt
    have o8 := off_put W7 tb x' (.slice A' n' c') (.slice A2' n2' c2')
    have bo8 : Bo (World.setCell (World.setCell (World.setCell (World.setCell (World.setCell (World.setCell (World.setCell (World.setCell (World.setCell W7 ⟨tb, 0, none⟩ (.int .i64 x'.i)) ⟨tb, 1, none⟩ (.int .i64 x'.s)) ⟨tb, 2, none⟩ (.int .i64 x'.t)) ⟨tb, 3, none⟩ (.int .i64 x'.b)) ⟨tb, 4, none⟩ (.int .i64 x'.l)) ⟨tb, 5, none⟩ (.int .i64 x'.h)) ⟨tb, 6, none⟩ (.int .i64 x'.c)) ⟨tb, 7, none⟩ (.slice A' n' c')) ⟨tb, 8, none⟩ (.slice A2' n2' c2')) (w.heap.size + 3) tb x' A' n' c' R' A2' n2' c2' S' := ⟨bx7.bx.put x' _ _, (hown.off o8 hbt6).more (by have := K6.out.size; omega), by omega⟩
    have k8 := kp_off (K6.out.trans hkp7) (by omega) (show W1.heap.size ≤ tb by omega) o8
    have kd8 := kp_off (KD6.out.trans hkp7) (by omega) (show W2.heap.size ≤ tb by omega) o8
    have c8 := cur_off hcu7 (by omega) o8
    have ST8 := Lib.hid ((World.cell?_of_block (w := W7) (a := ⟨sb, 0, none⟩) (o8.block sb (by omega))).trans ((hkp7.cell (p := ⟨sb, 0, none⟩) (by simp only; omega) (by simp only; omega)).trans ST6.out))
    obtain ⟨t0, t1, t2, t3, t4, t5, t6, t7, t8⟩ := bx7.bx.tb
    have y0 := bx7.bx.fz 0
    have y1 := bx7.bx.fz 1
    have y2 := bx7.bx.fz 2
    have y3 := bx7.bx.fz 3
    have y4 := bx7.bx.fz 4
    have y5 := bx7.bx.fz 5
    have y6 := bx7.bx.fz 6
    have y7 := bx7.bx.fz 7
    have y8 := bx7.bx.fz 8
    clear o8 hown hcu7 hkp7 bx7
    go_wp2_with fail
    clear t0 t1 t2 t3 t4 t5 t6 t7 t8 y0 y1 y2 y3 y4 y5 y6 y7 y8
    generalize (World.setCell (World.setCell (World.setCell (World.setCell (World.setCell (World.setCell (World.setCell (World.setCell (World.setCell W7 ⟨tb, 0, none⟩ (.int .i64 x'.i)) ⟨tb, 1, none⟩ (.int .i64 x'.s)) ⟨tb, 2, none⟩ (.int .i64 x'.t)) ⟨tb, 3, none⟩ (.int .i64 x'.b)) ⟨tb, 4, none⟩ (.int .i64 x'.l)) ⟨tb, 5, none⟩ (.int .i64 x'.h)) ⟨tb, 6, none⟩ (.int .i64 x'.c)) ⟨tb, 7, none⟩ (.slice A' n' c')) ⟨tb, 8, none⟩ (.slice A2' n2' c2')) = W8 at bo8 k8 kd8 c8 ST8 ⊢
    have K8 := Lib.hid k8
    have KD8 := Lib.hid kd8
    have C8 := Lib.hid c8
    have B8 := Lib.hid bo8
    clear bo8 k8 kd8 c8 K6 KD6 C6 B6 ST6 hn hn2
    have ZS8 := ZS1.out.of_block (K8.out.gr.block w.heap.size (by omega) (fun e => by injection e with e; omega))
    have ZR8 := ZR1.out.of_block (K8.out.gr.block (w.heap.size + 1) (by omega) (fun e => by injection e with e; omega))
    obtain ⟨t0, t1, t2, t3, t4, t5, t6, t7, t8⟩ := B8.out.bx.tb
    have st := ST8.out
    have s0 := ZS8.cell
    have g0 := ZS8.fz
    obtain ⟨z0, z1, z2, z3, z4, z5, z6, z7, z8⟩ := ZR8.tb
    have y0 := ZR8.fz 0
    have y1 := ZR8.fz 1
    have y2 := ZR8.fz 2
    have y3 := ZR8.fz 3
    have y4 := ZR8.fz 4
    have y5 := ZR8.fz 5
    have y6 := ZR8.fz 6
    have y7 := ZR8.fz 7
    have y8 := ZR8.fz 8
    have hbt := B8.out.lt
    try go_wp2_with fail
    go_region_held3 (fun w' => w'.cell? ⟨sb, 0, none⟩ = some (.slice D N cN) ∧ w'.cell? ⟨tb, 0, none⟩ = some (.int .i64 x'.i) ∧ w'.cell? ⟨tb, 1, none⟩ = some (.int .i64 x'.s) ∧ w'.cell? ⟨tb, 2, none⟩ = some (.int .i64 x'.t) ∧ w'.cell? ⟨tb, 3, none⟩ = some (.int .i64 x'.b) ∧ w'.cell? ⟨tb, 4, none⟩ = some (.int .i64 x'.l) ∧ w'.cell? ⟨tb, 5, none⟩ = some (.int .i64 x'.h) ∧ w'.cell? ⟨tb, 6, none⟩ = some (.int .i64 x'.c) ∧ w'.cell? ⟨tb, 7, none⟩ = some (.slice A' n' c') ∧ w'.cell? ⟨tb, 8, none⟩ = some (.slice A2' n2' c2')) (first | ((repeat' apply And.intro) <;> first | with_reducible exact (put9_celld (by simp only; omega)).trans (by assumption) | with_reducible exact (cell1d (by simp only; omega)).trans (by assumption) | with_reducible exact (put9_cell (by simp only; omega)).trans (by assumption) | with_reducible exact (cell1 (by simp only; omega)).trans (by assumption) | with_reducible exact (put9_celld (by simp only; omega)).trans ((cell1 (by simp only; omega)).trans (by assumption)) | with_reducible exact (cell1d (by simp only; omega)).trans ((put9_cell (by simp only; omega)).trans (by assumption)) | with_reducible exact (put9_cell (by simp only; omega)).trans ((cell1 (by simp only; omega)).trans (by assumption)) | with_reducible exact (cell1 (by simp only; omega)).trans ((put9_cell (by simp only; omega)).trans (by assumption))) | go_keep) (fail)
    all_goals
      have hbel := HB1.out.trans K8.out.bel
      have hF := fun W' hW => fin_19 (W' := W') (x := x') (A := A') (n := n') (c := c') (R := R') (A2 := A2') (n2 := n2') (c2 := c2') (S := S') (D := D) (N := N) (cN := cN) ZS8 ZR8 (B8.out.own.more (show w.heap.size + 3 ≤ _ by omega)) hbel (Nat.le_refl _) (Nat.le_succ _) (by omega) (by omega) (by omega) hW
      have hG := fun W' hW => fin_91 (W' := W') (x := x') (A := A') (n := n') (c := c') (R := R') (A2 := A2') (n2 := n2') (c2 := c2') (S := S') (D := D) (N := N) (cN := cN) ZS8 ZR8 (B8.out.own.more (show w.heap.size + 3 ≤ _ by omega)) hbel (Nat.le_refl _) (Nat.le_succ _) (by omega) (by omega) (by omega) hW
      clear t0 t1 t2 t3 t4 t5 t6 t7 t8 st s0 g0 z0 z1 z2 z3 z4 z5 z6 z7 z8 y0 y1 y2 y3 y4 y5 y6 y7 y8 hbel
      try go_wp2_with fail
      generalize hW : World.setCell _ _ _ = W8x
      obtain ⟨q9, ⟨q0, q1, q2, q3, q4, q5, q6, q7, q8⟩, _⟩ := (by first | exact hF W8x hW | exact hG W8x hW : Fin6 w W8 W8x w.heap.size (w.heap.size + 1) x' A' n' c' R' A2' n2' c2' S' D N cN (w.heap.size + 3))
      obtain ⟨e9, ⟨e0, e1, e2, e3, e4, e5, e6, e7, e8⟩, hO, hB9, hz9, hk9⟩ := (by first | exact (hF W8x hW).drew | exact (hG W8x hW).drew : Fin6 w W8 W8x.drew w.heap.size (w.heap.size + 1) x' A' n' c' R' A2' n2' c2' S' D N cN (w.heap.size + 3))
      have hcur9 := CurAt_of C8.out (hk9 (w.heap.size + 2) (by omega) (by omega))
      have hrs9 : ∀ W : World, W8x.drew.heap.size ≤ W.heap.size → (∀ q, w.heap.size + 3 ≤ q → q < W8x.drew.heap.size → W.heap[q]? = W8x.drew.heap[q]?) → Rs W W.heap.size D N C := fun W hs hq => HRS.out W (by have := KD8.out.size; omega) (fun q h1 h2 => (hq q (by omega) (by have := KD8.out.size; omega)).trans ((hk9 q (by omega) (by omega)).trans (KD8.out.gr.block q h2 (fun e => by injection e with e; omega))))
      exact bodyPost_ret (v := .tuple #[.pointer (some ⟨w.heap.size + 2, 0, none⟩), .agg #[.slice D N cN], txv x' (.slice A' n' c') (.slice A2' n2' c2')]) (by simp [results, Tryz.results67, go_sem, e0, e1, e2, e3, e4, e5, e6, e7, e8, e9, q0, q1, q2, q3, q4, q5, q6, q7, q8, q9]) rfl ⟨D, N, cN, C, x', A', n', c', R', A2', n2', c2', S', rfl, ⟨hN, HSH.out⟩, by omega, by omega, hrs9, hO, hcur9, hB9, by have := K8.out.size; omega⟩
end Go.Proofs.YtigbknmiidhblaaGreatDoor.dpr
/- The model's DrawRefreshHigh: a drawn store and a drawn transaction. -/
namespace Go.Proofs.YtigbknmiidhblaaGreatDoor.drh
open Go.ChangeShapes Go.WideShapes Go.ChangeAt Go.RowKit
open Go.Proofs.YtigbknmiidhblaaGreatDoor.el2 Go.Proofs.YtigbknmiidhblaaGreatDoor.tx Go.Proofs.YtigbknmiidhblaaGreatDoor.ap Go.Proofs.YtigbknmiidhblaaGreatDoor.bx Go.Proofs.YtigbknmiidhblaaGreatDoor.ad Go.Proofs.YtigbknmiidhblaaGreatDoor.sf Go.Proofs.YtigbknmiidhblaaGreatDoor.dr Go.Proofs.YtigbknmiidhblaaGreatDoor.drt Go.Proofs.YtigbknmiidhblaaGreatDoor.dpr
open Go.Proofs.YtigbknmiidhblaaGreatDoor.cur (CurAt CodeAt Kp Only below_calls pick_calls new_calls cur_new)
open Go.Proofs.YtigbknmiidhblaaGreatDoor.vers (new2)
open Go.Proofs.YtigbknmiidhblaaGreatDoor.sl (Ver)
open Go.Proofs.YtigbknmiidhblaaGreatDoor.st (Rs)
set_option linter.unusedVariables false
set_option linter.unusedSimpArgs false
theorem code_more {w : World} {B B' : Nat} {a : Option Addr} {len : Nat} (h : CodeAt w B a len) (hB : B ≤ B') : CodeAt w B' a len := by
  intro j hj
  obtain ⟨cb, off, z, h1, h2, h3, h4, h5⟩ := h j hj
  exact ⟨cb, off, z, h1, by omega, h3, h4, h5⟩
/-- a drawn store and a drawn transaction -/
def DRH (w : World) (e : Ending) (w' : World) : Prop :=
  ∃ (D : Option Addr) (N cN : Nat) (C : List (List Ver)) (x : Hd) (A : Option Addr) (n c : Nat) (R : List E2) (A2 : Option Addr) (n2 c2 : Nat) (S : List E2), e = .returned (.tuple #[.agg #[.slice D N cN], txv x (.slice A n c) (.slice A2 n2 c2)]) ∧ N ≤ 6 ∧ n ≤ 5 ∧ n2 ≤ 5 ∧ Rs w' w'.heap.size D N C ∧ OwnT w' w.heap.size (.slice A n c) n R (.slice A2 n2 c2) n2 S ∧ Below w.heap.size w w'
end Go.Proofs.YtigbknmiidhblaaGreatDoor.drh
/- The model's l8Three: a drawn store, a drawn transaction, a stamp. -/
namespace Go.Proofs.YtigbknmiidhblaaGreatDoor.d83
open Go.ChangeShapes Go.WideShapes Go.ChangeAt Go.RowKit
open Go.Proofs.YtigbknmiidhblaaGreatDoor.el2 Go.Proofs.YtigbknmiidhblaaGreatDoor.tx Go.Proofs.YtigbknmiidhblaaGreatDoor.ap Go.Proofs.YtigbknmiidhblaaGreatDoor.bx Go.Proofs.YtigbknmiidhblaaGreatDoor.ad Go.Proofs.YtigbknmiidhblaaGreatDoor.sf Go.Proofs.YtigbknmiidhblaaGreatDoor.dr Go.Proofs.YtigbknmiidhblaaGreatDoor.drt Go.Proofs.YtigbknmiidhblaaGreatDoor.dpr Go.Proofs.YtigbknmiidhblaaGreatDoor.drh
open Go.Proofs.YtigbknmiidhblaaGreatDoor.cur (CurAt CodeAt Kp Only below_calls pick_calls new_calls cur_new)
open Go.Proofs.YtigbknmiidhblaaGreatDoor.vers (new2)
open Go.Proofs.YtigbknmiidhblaaGreatDoor.sl (Ver)
open Go.Proofs.YtigbknmiidhblaaGreatDoor.st (Rs)
set_option linter.unusedVariables false
set_option linter.unusedSimpArgs false
theorem list_w {W : World} {g : Nat} {t : TypeId} (h : W.heap[g]? = some (.cells #[.int .i64 1, .int .i64 1, .int .i64 1, .int .i64 2, .int .i64 0, .int .i64 999] t (0, 0))) : ∀ j, j < 6 → ∃ v : Int, W.cell? ⟨g, j, none⟩ = some (.int .i64 v) ∧ 0 ≤ v ∧ v ≤ 999 := by
  intro j hj
  have : j = 0 ∨ j = 1 ∨ j = 2 ∨ j = 3 ∨ j = 4 ∨ j = 5 := by omega
  rcases this with rfl | rfl | rfl | rfl | rfl | rfl
  · exact ⟨1, by simp [World.cell?, h], by omega, by omega⟩
  · exact ⟨1, by simp [World.cell?, h], by omega, by omega⟩
  · exact ⟨1, by simp [World.cell?, h], by omega, by omega⟩
  · exact ⟨2, by simp [World.cell?, h], by omega, by omega⟩
  · exact ⟨0, by simp [World.cell?, h], by omega, by omega⟩
  · exact ⟨999, by simp [World.cell?, h], by omega, by omega⟩
/-- what the region carries: the two boxes of the values, the two of the results, the lists, the cursor -/
structure ZZ (w W3 W : World) (b sb : Nat) (a : Option Addr) (len cap : Nat) (x : Hd) (A : Option Addr) (n c : Nat) (R : List E2) (A2 : Option Addr) (n2 c2 : Nat) (S : List E2) (D : Option Addr) (N cN : Nat) : Prop where
  st : W.cell? ⟨sb, 0, none⟩ = some (.slice D N cN)
  bxx : Bx W (sb + 1) x (.slice A n c) (.slice A2 n2 c2)
  zs : Sx W w.heap.size (.slice none 0 0)
  zr : Bx W (w.heap.size + 1) ⟨0, 0, 0, 0, 0, 0, 0⟩ (.slice none 0 0) (.slice none 0 0)
  own : OwnT W (w.heap.size + 5) (.slice A n c) n R (.slice A2 n2 c2) n2 S
  bel : Below w.heap.size w W
  cur : CurAt W b a len cap
  sz : W3.heap.size ≤ W.heap.size
  blk : ∀ q, q < W3.heap.size → q ≠ b → W.heap[q]? = W3.heap[q]?
section
variable {w W3 W W' : World} {b sb len cap n c n2 c2 N cN : Nat} {a A A2 D : Option Addr} {x : Hd} {R S : List E2}
theorem ZZ.only (h : ZZ w W3 W b sb a len cap x A n c R A2 n2 c2 S D N cN) (hb : w.heap.size + 2 ≤ b) (hb2 : b < w.heap.size + 5) (hb3 : b < sb) (ho : Only b W W') (hc : CurAt W' b a len cap) : ZZ w W3 W' b sb a len cap x A n c R A2 n2 c2 S D N cN where
  st := (World.cell?_of_block (w := W) (a := ⟨sb, 0, none⟩) (ho.block sb (by omega))).trans h.st
  bxx := h.bxx.of_block (ho.block (sb + 1) (by omega))
  zs := h.zs.of_block (ho.block _ (by omega))
  zr := h.zr.of_block (ho.block _ (by omega))
  own := h.own.off ⟨ho.os, ho.tape, ho.output, ho.size, ho.block⟩ hb2
  bel := h.bel.trans (ho.below (by omega))
  cur := hc
  sz := by rw [ho.size]; exact h.sz
  blk := fun q hq hne => (ho.block q hne).trans (h.blk q hq hne)
theorem ZZ.below (h : ZZ w W3 W b sb a len cap x A n c R A2 n2 c2 S D N cN) (hs : sb < W.heap.size) (hb : Below W.heap.size W W') : ZZ w W3 W' b sb a len cap x A n c R A2 n2 c2 S D N cN where
  st := (hb.cell (p := ⟨sb, 0, none⟩) hs).trans h.st
  bxx := h.bxx.keep hb h.bxx.lt
  zs := h.zs.of_block (hb.block _ h.zs.lt)
  zr := h.zr.keep hb h.zr.lt
  own := h.own.keep hb
  bel := h.bel.trans (hb.mono h.bel.size)
  cur := h.cur.grown (row := none) ⟨hb.os, hb.tape, hb.output, hb.size, fun k hk _ => hb.block k hk⟩ (by simp)
  sz := Nat.le_trans h.sz hb.size
  blk := fun q hq hne => (hb.block q (Nat.lt_of_lt_of_le hq h.sz)).trans (h.blk q hq hne)
theorem ZZ.drew (h : ZZ w W3 W b sb a len cap x A n c R A2 n2 c2 S D N cN) : ZZ w W3 W.drew b sb a len cap x A n c R A2 n2 c2 S D N cN := ⟨h.st, h.bxx, h.zs, h.zr, h.own, h.bel.drew, h.cur, h.sz, h.blk⟩
theorem ZZ.cells (h : ZZ w W3 W b sb a len cap x A n c R A2 n2 c2 S D N cN) : W.cell? ⟨sb, 0, none⟩ = some (.slice D N cN) ∧ W.cell? ⟨sb + 1, 0, none⟩ = some (.int .i64 x.i) ∧ W.cell? ⟨sb + 1, 1, none⟩ = some (.int .i64 x.s) ∧ W.cell? ⟨sb + 1, 2, none⟩ = some (.int .i64 x.t) ∧ W.cell? ⟨sb + 1, 3, none⟩ = some (.int .i64 x.b) ∧ W.cell? ⟨sb + 1, 4, none⟩ = some (.int .i64 x.l) ∧ W.cell? ⟨sb + 1, 5, none⟩ = some (.int .i64 x.h) ∧ W.cell? ⟨sb + 1, 6, none⟩ = some (.int .i64 x.c) ∧ W.cell? ⟨sb + 1, 7, none⟩ = some (.slice A n c) ∧ W.cell? ⟨sb + 1, 8, none⟩ = some (.slice A2 n2 c2) := ⟨h.st, h.bxx.tb⟩
end
/-- a drawn store, a drawn transaction, a stamp -/
def D3 (w : World) (e : Ending) (w' : World) : Prop :=
  ∃ (D : Option Addr) (N cN : Nat) (C : List (List Ver)) (x : Hd) (A : Option Addr) (n c : Nat) (R : List E2) (A2 : Option Addr) (n2 c2 : Nat) (S : List E2) (k : Int), e = .returned (.tuple #[.agg #[.slice D N cN], txv x (.slice A n c) (.slice A2 n2 c2), .int .i64 k]) ∧ (N ≤ 6 ∧ ∀ l ∈ C, List.length l ≤ 5) ∧ n ≤ 5 ∧ n2 ≤ 5 ∧
    (∀ W : World, w'.heap.size ≤ W.heap.size → (∀ q, w.heap.size + 3 ≤ q → q < w'.heap.size → W.heap[q]? = w'.heap[q]?) → Rs W W.heap.size D N C) ∧ OwnT w' (w.heap.size + 3) (.slice A n c) n R (.slice A2 n2 c2) n2 S ∧ Below w.heap.size w w' ∧ w.heap.size + 3 ≤ w'.heap.size
set_option maxRecDepth 100000 in
set_option maxHeartbeats 6400000 in
theorem draw_three (a : Option Addr) (len cap : Nat) (w : World) (hl : len ≤ 1048576) (hcode : CodeAt w w.heap.size a len) :
    Calls Tryz.prog 30 #[.slice a len cap] w (D3 w) := by
  have hb0 := new2 w (.cells #[.slice none 0 0] 26) (.cells #[.int .i64 0, .int .i64 0, .int .i64 0, .int .i64 0, .int .i64 0, .int .i64 0, .int .i64 0, .slice none 0 0, .slice none 0 0] 30)
  have HP := Lib.hid (draw_pair a len cap ((w.alloc (.cells #[.slice none 0 0] 26)).alloc (.cells #[.int .i64 0, .int .i64 0, .int .i64 0, .int .i64 0, .int .i64 0, .int .i64 0, .int .i64 0, .slice none 0 0, .slice none 0 0] 30)) hl (code_more (hcode.below (Nat.le_refl _) hb0) hb0.size))
  have HC := Lib.hid hcode
  clear hcode
  go_enter Tryz.func30, Tryz.ntmps30
  go_wp2_with fail
  have zs : Sx ((w.alloc (.cells #[.slice none 0 0] 26)).alloc (.cells #[.int .i64 0, .int .i64 0, .int .i64 0, .int .i64 0, .int .i64 0, .int .i64 0, .int .i64 0, .slice none 0 0, .slice none 0 0] 30)) w.heap.size (.slice none 0 0) := (Sx.new w (.slice none 0 0)).of_block ((new1 (w.alloc (.cells #[.slice none 0 0] 26)) (.cells #[.int .i64 0, .int .i64 0, .int .i64 0, .int .i64 0, .int .i64 0, .int .i64 0, .int .i64 0, .slice none 0 0, .slice none 0 0] 30)).block w.heap.size (by simp))
  have zr := Bx.zero (w.alloc (.cells #[.slice none 0 0] 26))
  rw [show (w.alloc (.cells #[.slice none 0 0] 26)).heap.size = w.heap.size + 1 by simp] at zr
  have hs0 : ((w.alloc (.cells #[.slice none 0 0] 26)).alloc (.cells #[.int .i64 0, .int .i64 0, .int .i64 0, .int .i64 0, .int .i64 0, .int .i64 0, .int .i64 0, .slice none 0 0, .slice none 0 0] 30)).heap.size = w.heap.size + 2 := by simp
  generalize (w.alloc _).alloc _ = w0 at hb0 zs zr hs0 HP ⊢
  have HB0 := Lib.hid hb0
  have hp := HP.out
  unfold DP at hp
  rw [hs0] at hp
  have HP := Lib.hid hp
  clear hb0 hp
  refine HP.out.mono ?_
  rintro e W1 ⟨D, N, cN, C, x, A, n, c, R, A2, n2, c2, S, rfl, ⟨hN, hsh⟩, hn, hn2, hrs, hown, hcu, hb1, hs1⟩
  have HSH := Lib.hid hsh
  clear hsh
  have HRS := Lib.hid hrs
  have hs0' : w.heap.size + 2 ≤ w0.heap.size := by omega
  rw [← hs0] at hb1
  have hb01 := HB0.out.trans (hb1.mono HB0.out.size)
  have zs1 := zs.of_block (hb1.block w.heap.size (by omega))
  have zr1 := zr.of_block (hb1.block (w.heap.size + 1) (by omega))
  have hnn := new2 W1 (.cells #[.slice D N cN] 26) (.cells #[.int .i64 x.i, .int .i64 x.s, .int .i64 x.t, .int .i64 x.b, .int .i64 x.l, .int .i64 x.h, .int .i64 x.c, .slice A n c, .slice A2 n2 c2] 30)
  have st3 := st.up (.cells #[.int .i64 x.i, .int .i64 x.s, .int .i64 x.t, .int .i64 x.b, .int .i64 x.l, .int .i64 x.h, .int .i64 x.c, .slice A n c, .slice A2 n2 c2] 30) (st.one_cell W1 (.slice D N cN) 26) (by simp)
  have bx3 := Bx.new (W1.alloc (.cells #[.slice D N cN] 26)) x (.slice A n c) (.slice A2 n2 c2)
  rw [show (W1.alloc (.cells #[.slice D N cN] 26)).heap.size = W1.heap.size + 1 by simp] at bx3
  have zz : ZZ w ((W1.alloc (.cells #[.slice D N cN] 26)).alloc (.cells #[.int .i64 x.i, .int .i64 x.s, .int .i64 x.t, .int .i64 x.b, .int .i64 x.l, .int .i64 x.h, .int .i64 x.c, .slice A n c, .slice A2 n2 c2] 30)) ((W1.alloc (.cells #[.slice D N cN] 26)).alloc (.cells #[.int .i64 x.i, .int .i64 x.s, .int .i64 x.t, .int .i64 x.b, .int .i64 x.l, .int .i64 x.h, .int .i64 x.c, .slice A n c, .slice A2 n2 c2] 30)) (w.heap.size + 4) W1.heap.size a len cap x A n c R A2 n2 c2 S D N cN := ⟨st3, bx3, zs1.of_block (hnn.block w.heap.size (by omega)), zr1.of_block (hnn.block (w.heap.size + 1) (by omega)), (hown.more (by omega)).keep hnn, hb01.trans (hnn.mono (by have := hb01.size; omega)), (show CurAt W1 (w.heap.size + 4) a len cap from hcu).grown (row := none) ⟨hnn.os, hnn.tape, hnn.output, hnn.size, fun k hk _ => hnn.block k hk⟩ (by simp), Nat.le_refl _, fun _ _ _ => rfl⟩
  have hl3 : W1.heap.size + 2 ≤ ((W1.alloc (.cells #[.slice D N cN] 26)).alloc (.cells #[.int .i64 x.i, .int .i64 x.s, .int .i64 x.t, .int .i64 x.b, .int .i64 x.l, .int .i64 x.h, .int .i64 x.c, .slice A n c, .slice A2 n2 c2] 30)).heap.size := by simp
  have hz3 : w.heap.size + 5 ≤ W1.heap.size := by omega
  have hq3 : ∀ q, q < W1.heap.size → ((W1.alloc (.cells #[.slice D N cN] 26)).alloc (.cells #[.int .i64 x.i, .int .i64 x.s, .int .i64 x.t, .int .i64 x.b, .int .i64 x.l, .int .i64 x.h, .int .i64 x.c, .slice A n c, .slice A2 n2 c2] 30)).heap[q]? = W1.heap[q]? := fun q hq => hnn.block q (by omega)
  clear hrs hown hcu zs1 zr1 zs zr hb01 hb1 hs0 hs0' HP HB0 st3 bx3 hnn hs1
  go_wp2_with fail
  generalize hsb : W1.heap.size = sb at zz hl3 hz3 hq3 ⊢
  generalize (W1.alloc _).alloc _ = W3 at zz hl3 hq3 ⊢
  have Z3 := Lib.hid zz
  have HQ3 := Lib.hid hq3
  obtain ⟨m, hm⟩ : ∃ m, Go.Proofs.YtigbknmiidhblaaGreatDoor.last.lstS C = m := ⟨_, rfl⟩
  have hmr := Go.Proofs.YtigbknmiidhblaaGreatDoor.em.lst_range C
  rw [hm] at hmr
  obtain ⟨hm0, hm1⟩ := hmr
  have HM := Lib.hid hm
  have HLS := Lib.hid (fun W (hs : W3.heap.size ≤ W.heap.size) (hq : ∀ q, q < W3.heap.size → W.heap[q]? = W3.heap[q]?) => Go.Proofs.YtigbknmiidhblaaGreatDoor.last.spec_last (c := cN) (by omega) (HRS.out W (by omega) (fun q h1 h2 => (hq q (by omega)).trans (HQ3.out q (by omega)))) (Nat.le_refl _))
  have HPk := Lib.hid (fun g W (z : ZZ w W3 W (w.heap.size + 4) sb a len cap x A n c R A2 n2 c2 S D N cN) (hg : g ≠ w.heap.size + 4) (hlist : ∀ j, j < 6 → ∃ v : Int, W.cell? ⟨g, j, none⟩ = some (.int .i64 v) ∧ 0 ≤ v ∧ v ≤ 999) => pick_calls (w.heap.size + 4) w.heap.size g a len cap 6 0 999 W hl z.cur (HC.out.below (Nat.le_refl _) z.bel) (by omega) (by omega) (by omega) hg hlist)
  have hc3 : W3.cell? ⟨sb, 0, none⟩ = some (.slice D N cN) ∧ W3.cell? ⟨sb + 1, 0, none⟩ = some (.int .i64 x.i) ∧ W3.cell? ⟨sb + 1, 1, none⟩ = some (.int .i64 x.s) ∧ W3.cell? ⟨sb + 1, 2, none⟩ = some (.int .i64 x.t) ∧ W3.cell? ⟨sb + 1, 3, none⟩ = some (.int .i64 x.b) ∧ W3.cell? ⟨sb + 1, 4, none⟩ = some (.int .i64 x.l) ∧ W3.cell? ⟨sb + 1, 5, none⟩ = some (.int .i64 x.h) ∧ W3.cell? ⟨sb + 1, 6, none⟩ = some (.int .i64 x.c) ∧ W3.cell? ⟨sb + 1, 7, none⟩ = some (.slice A n c) ∧ W3.cell? ⟨sb + 1, 8, none⟩ = some (.slice A2 n2 c2) := zz.cells
  have hc3d : W3.drew.cell? ⟨sb, 0, none⟩ = some (.slice D N cN) ∧ W3.drew.cell? ⟨sb + 1, 0, none⟩ = some (.int .i64 x.i) ∧ W3.drew.cell? ⟨sb + 1, 1, none⟩ = some (.int .i64 x.s) ∧ W3.drew.cell? ⟨sb + 1, 2, none⟩ = some (.int .i64 x.t) ∧ W3.drew.cell? ⟨sb + 1, 3, none⟩ = some (.int .i64 x.b) ∧ W3.drew.cell? ⟨sb + 1, 4, none⟩ = some (.int .i64 x.l) ∧ W3.drew.cell? ⟨sb + 1, 5, none⟩ = some (.int .i64 x.h) ∧ W3.drew.cell? ⟨sb + 1, 6, none⟩ = some (.int .i64 x.c) ∧ W3.drew.cell? ⟨sb + 1, 7, none⟩ = some (.slice A n c) ∧ W3.drew.cell? ⟨sb + 1, 8, none⟩ = some (.slice A2 n2 c2) := zz.drew.cells
  have hca : (W3.alloc (.cells #[.int .i64 1, .int .i64 1, .int .i64 1, .int .i64 2, .int .i64 0, .int .i64 999] 3)).cell? ⟨sb, 0, none⟩ = some (.slice D N cN) ∧ (W3.alloc (.cells #[.int .i64 1, .int .i64 1, .int .i64 1, .int .i64 2, .int .i64 0, .int .i64 999] 3)).cell? ⟨sb + 1, 0, none⟩ = some (.int .i64 x.i) ∧ (W3.alloc (.cells #[.int .i64 1, .int .i64 1, .int .i64 1, .int .i64 2, .int .i64 0, .int .i64 999] 3)).cell? ⟨sb + 1, 1, none⟩ = some (.int .i64 x.s) ∧ (W3.alloc (.cells #[.int .i64 1, .int .i64 1, .int .i64 1, .int .i64 2, .int .i64 0, .int .i64 999] 3)).cell? ⟨sb + 1, 2, none⟩ = some (.int .i64 x.t) ∧ (W3.alloc (.cells #[.int .i64 1, .int .i64 1, .int .i64 1, .int .i64 2, .int .i64 0, .int .i64 999] 3)).cell? ⟨sb + 1, 3, none⟩ = some (.int .i64 x.b) ∧ (W3.alloc (.cells #[.int .i64 1, .int .i64 1, .int .i64 1, .int .i64 2, .int .i64 0, .int .i64 999] 3)).cell? ⟨sb + 1, 4, none⟩ = some (.int .i64 x.l) ∧ (W3.alloc (.cells #[.int .i64 1, .int .i64 1, .int .i64 1, .int .i64 2, .int .i64 0, .int .i64 999] 3)).cell? ⟨sb + 1, 5, none⟩ = some (.int .i64 x.h) ∧ (W3.alloc (.cells #[.int .i64 1, .int .i64 1, .int .i64 1, .int .i64 2, .int .i64 0, .int .i64 999] 3)).cell? ⟨sb + 1, 6, none⟩ = some (.int .i64 x.c) ∧ (W3.alloc (.cells #[.int .i64 1, .int .i64 1, .int .i64 1, .int .i64 2, .int .i64 0, .int .i64 999] 3)).cell? ⟨sb + 1, 7, none⟩ = some (.slice A n c) ∧ (W3.alloc (.cells #[.int .i64 1, .int .i64 1, .int .i64 1, .int .i64 2, .int .i64 0, .int .i64 999] 3)).cell? ⟨sb + 1, 8, none⟩ = some (.slice A2 n2 c2) := (zz.below (by omega) (new1 W3 (.cells #[.int .i64 1, .int .i64 1, .int .i64 1, .int .i64 2, .int .i64 0, .int .i64 999] 3))).cells
  have hcad : (W3.alloc (.cells #[.int .i64 1, .int .i64 1, .int .i64 1, .int .i64 2, .int .i64 0, .int .i64 999] 3)).drew.cell? ⟨sb, 0, none⟩ = some (.slice D N cN) ∧ (W3.alloc (.cells #[.int .i64 1, .int .i64 1, .int .i64 1, .int .i64 2, .int .i64 0, .int .i64 999] 3)).drew.cell? ⟨sb + 1, 0, none⟩ = some (.int .i64 x.i) ∧ (W3.alloc (.cells #[.int .i64 1, .int .i64 1, .int .i64 1, .int .i64 2, .int .i64 0, .int .i64 999] 3)).drew.cell? ⟨sb + 1, 1, none⟩ = some (.int .i64 x.s) ∧ (W3.alloc (.cells #[.int .i64 1, .int .i64 1, .int .i64 1, .int .i64 2, .int .i64 0, .int .i64 999] 3)).drew.cell? ⟨sb + 1, 2, none⟩ = some (.int .i64 x.t) ∧ (W3.alloc (.cells #[.int .i64 1, .int .i64 1, .int .i64 1, .int .i64 2, .int .i64 0, .int .i64 999] 3)).drew.cell? ⟨sb + 1, 3, none⟩ = some (.int .i64 x.b) ∧ (W3.alloc (.cells #[.int .i64 1, .int .i64 1, .int .i64 1, .int .i64 2, .int .i64 0, .int .i64 999] 3)).drew.cell? ⟨sb + 1, 4, none⟩ = some (.int .i64 x.l) ∧ (W3.alloc (.cells #[.int .i64 1, .int .i64 1, .int .i64 1, .int .i64 2, .int .i64 0, .int .i64 999] 3)).drew.cell? ⟨sb + 1, 5, none⟩ = some (.int .i64 x.h) ∧ (W3.alloc (.cells #[.int .i64 1, .int .i64 1, .int .i64 1, .int .i64 2, .int .i64 0, .int .i64 999] 3)).drew.cell? ⟨sb + 1, 6, none⟩ = some (.int .i64 x.c) ∧ (W3.alloc (.cells #[.int .i64 1, .int .i64 1, .int .i64 1, .int .i64 2, .int .i64 0, .int .i64 999] 3)).drew.cell? ⟨sb + 1, 7, none⟩ = some (.slice A n c) ∧ (W3.alloc (.cells #[.int .i64 1, .int .i64 1, .int .i64 1, .int .i64 2, .int .i64 0, .int .i64 999] 3)).drew.cell? ⟨sb + 1, 8, none⟩ = some (.slice A2 n2 c2) := (zz.below (by omega) (new1 W3 (.cells #[.int .i64 1, .int .i64 1, .int .i64 1, .int .i64 2, .int .i64 0, .int .i64 999] 3))).drew.cells
  obtain ⟨st0, t0, t1, t2, t3, t4, t5, t6, t7, t8⟩ := hc3
  have hbt : sb + 1 < W3.heap.size := by omega
  clear zz hq3
  try go_wp2_with fail
  go_region_held3 (fun w' => w'.cell? ⟨sb, 0, none⟩ = some (.slice D N cN) ∧ w'.cell? ⟨sb + 1, 0, none⟩ = some (.int .i64 x.i) ∧ w'.cell? ⟨sb + 1, 1, none⟩ = some (.int .i64 x.s) ∧ w'.cell? ⟨sb + 1, 2, none⟩ = some (.int .i64 x.t) ∧ w'.cell? ⟨sb + 1, 3, none⟩ = some (.int .i64 x.b) ∧ w'.cell? ⟨sb + 1, 4, none⟩ = some (.int .i64 x.l) ∧ w'.cell? ⟨sb + 1, 5, none⟩ = some (.int .i64 x.h) ∧ w'.cell? ⟨sb + 1, 6, none⟩ = some (.int .i64 x.c) ∧ w'.cell? ⟨sb + 1, 7, none⟩ = some (.slice A n c) ∧ w'.cell? ⟨sb + 1, 8, none⟩ = some (.slice A2 n2 c2)) (first | with_reducible exact hc3d | with_reducible exact hcad | with_reducible exact hca | with_reducible exact hc4 | with_reducible exact hc4a | with_reducible exact hc5 | (first | ((repeat' apply And.intro) <;> first | with_reducible exact (put9_celld (by simp only; omega)).trans (by assumption) | with_reducible exact (cell1d (by simp only; omega)).trans (by assumption) | with_reducible exact (put9_cell (by simp only; omega)).trans (by assumption) | with_reducible exact (cell1 (by simp only; omega)).trans (by assumption) | with_reducible exact (put9_celld (by simp only; omega)).trans ((cell1 (by simp only; omega)).trans (by assumption)) | with_reducible exact (cell1d (by simp only; omega)).trans ((put9_cell (by simp only; omega)).trans (by assumption)) | with_reducible exact (put9_cell (by simp only; omega)).trans ((cell1 (by simp only; omega)).trans (by assumption)) | with_reducible exact (cell1 (by simp only; omega)).trans ((put9_cell (by simp only; omega)).trans (by assumption))) | go_keep)) (first | (go_at_call 68; (with_reducible refine (HLS.out W3.drew (Nat.le_refl _) (fun _ _ => rfl)).mono ?_); rintro e W4 ⟨he, hb4⟩; rw [HM.out] at he; subst he; have hz4 : W3.heap.size ≤ W4.heap.size := hb4.size; have z4 := Z3.out.drew.below (show sb < W3.heap.size by omega) hb4; have hc4 := z4.cells; have z4a := z4.below (by omega) (new1 W4 (.cells #[.int .i64 1, .int .i64 1, .int .i64 1, .int .i64 2, .int .i64 0, .int .i64 999] 3)); have hc4a := z4a.cells; have hll : (W4.alloc (.cells #[.int .i64 1, .int .i64 1, .int .i64 1, .int .i64 2, .int .i64 0, .int .i64 999] 3)).heap[W4.heap.size]? = some (.cells #[.int .i64 1, .int .i64 1, .int .i64 1, .int .i64 2, .int .i64 0, .int .i64 999] 3) := heap_alloc_new W4 _) | (go_at_call 68; have zA := (Z3.out.below (by omega) (new1 W3 (.cells #[.int .i64 1, .int .i64 1, .int .i64 1, .int .i64 2, .int .i64 0, .int .i64 999] 3))).drew; (with_reducible refine (HLS.out (W3.alloc (.cells #[.int .i64 1, .int .i64 1, .int .i64 1, .int .i64 2, .int .i64 0, .int .i64 999] 3)).drew (by simp) (fun q hq => ((new1 W3 (.cells #[.int .i64 1, .int .i64 1, .int .i64 1, .int .i64 2, .int .i64 0, .int .i64 999] 3)).drew).block q hq)).mono ?_); rintro e W4 ⟨he, hb4⟩; rw [HM.out] at he; subst he; have hz4 : W3.heap.size + 1 ≤ W4.heap.size := (by have := hb4.size; simpa using this); have z4 := zA.below (show sb < (W3.alloc (.cells #[.int .i64 1, .int .i64 1, .int .i64 1, .int .i64 2, .int .i64 0, .int .i64 999] 3)).drew.heap.size by simp; omega) hb4; have hL4 : W4.heap[W3.heap.size]? = some (.cells #[.int .i64 1, .int .i64 1, .int .i64 1, .int .i64 2, .int .i64 0, .int .i64 999] 3) := (hb4.block W3.heap.size (by simp)).trans (heap_alloc_new W3 _); have hc4 := z4.cells) | (go_at_call 69; (with_reducible refine (HPk.out W4.heap.size (W4.alloc (.cells #[.int .i64 1, .int .i64 1, .int .i64 1, .int .i64 2, .int .i64 0, .int .i64 999] 3)) z4a (by omega) (list_w hll)).mono ?_); rintro e W5 ⟨v, rfl, hv0, hv1, hcu5, ho5⟩; have z5 := z4a.only (by omega) (by omega) (by omega) ho5 hcu5; have hc5 := z5.cells; have s0 := z5.zs.cell; have g0 := z5.zs.fz; obtain ⟨z0, z1, z2, z3, z4x, z5x, z6, z7, z8⟩ := z5.zr.tb; have y0 := z5.zr.fz 0; have y1 := z5.zr.fz 1; have y2 := z5.zr.fz 2; have y3 := z5.zr.fz 3; have y4 := z5.zr.fz 4; have y5 := z5.zr.fz 5; have y6 := z5.zr.fz 6; have y7 := z5.zr.fz 7; have y8 := z5.zr.fz 8; obtain ⟨st5, e0, e1, e2, e3, e4, e5, e6, e7, e8⟩ := z5.cells) | (go_at_call 69; (with_reducible refine (HPk.out W3.heap.size W4 z4 (by omega) (list_w hL4)).mono ?_); rintro e W5 ⟨v, rfl, hv0, hv1, hcu5, ho5⟩; have z5 := z4.only (by omega) (by omega) (by omega) ho5 hcu5; have hc5 := z5.cells; have s0 := z5.zs.cell; have g0 := z5.zs.fz; obtain ⟨z0, z1, z2, z3, z4x, z5x, z6, z7, z8⟩ := z5.zr.tb; have y0 := z5.zr.fz 0; have y1 := z5.zr.fz 1; have y2 := z5.zr.fz 2; have y3 := z5.zr.fz 3; have y4 := z5.zr.fz 4; have y5 := z5.zr.fz 5; have y6 := z5.zr.fz 6; have y7 := z5.zr.fz 7; have y8 := z5.zr.fz 8; obtain ⟨st5, e0, e1, e2, e3, e4, e5, e6, e7, e8⟩ := z5.cells))
  all_goals
    have hF := fun W' hW => fin_19 (W' := W') (x := x) (A := A) (n := n) (c := c) (R := R) (A2 := A2) (n2 := n2) (c2 := c2) (S := S) (D := D) (N := N) (cN := cN) z5.zs z5.zr z5.own z5.bel (Nat.le_refl _) (Nat.le_succ _) (by omega) (by omega) (by omega) hW
    have hG := fun W' hW => fin_91 (W' := W') (x := x) (A := A) (n := n) (c := c) (R := R) (A2 := A2) (n2 := n2) (c2 := c2) (S := S) (D := D) (N := N) (cN := cN) z5.zs z5.zr z5.own z5.bel (Nat.le_refl _) (Nat.le_succ _) (by omega) (by omega) (by omega) hW
    have hsz5 := z5.sz
    have hblk5 := z5.blk
    clear t0 t1 t2 t3 t4 t5 t6 t7 t8 st0 st5 s0 g0 z0 z1 z2 z3 z4x z5x z6 z7 z8 y0 y1 y2 y3 y4 y5 y6 y7 y8 e0 e1 e2 e3 e4 e5 e6 e7 e8 hc3d hca hcad hc4 hc5
    try go_wp2_with fail
    generalize hW : World.setCell _ _ _ = W9
    obtain ⟨e9, ⟨e0, e1, e2, e3, e4, e5, e6, e7, e8⟩, hO, hB9, hz9, hk9⟩ := (by first | exact hF W9 hW | exact hG W9 hW : Fin6 w W5 W9 w.heap.size (w.heap.size + 1) x A n c R A2 n2 c2 S D N cN (w.heap.size + 5))
    have hsz9 : W5.heap.size = W9.heap.size := hz9.symm
    have hwq : IntKind.i64.wrap (m + v) = m + v := by rw [IntKind.wrap_i64]; omega
    exact bodyPost_ret (v := .tuple #[.agg #[.slice D N cN], txv x (.slice A n c) (.slice A2 n2 c2), .int .i64 (m + v)]) (by simp [results, Tryz.results30, go_sem, e0, e1, e2, e3, e4, e5, e6, e7, e8, e9, hwq]) rfl ⟨D, N, cN, C, x, A, n, c, R, A2, n2, c2, S, m + v, rfl, ⟨hN, HSH.out⟩, hn, hn2, fun W hs hq => HRS.out W (by omega) (fun q h1 h2 => (hq q (by omega) (by omega)).trans ((hk9 q (by omega) (by omega)).trans ((hblk5 q (by omega) (by omega)).trans (HQ3.out q (by omega))))), hO.more (by omega), hB9, by omega⟩
end Go.Proofs.YtigbknmiidhblaaGreatDoor.d83
namespace Go.Proofs.YtigbknmiidhblaaGreatDoor.dcm
open Go.ChangeShapes Go.WideShapes Go.ChangeAt Go.RowKit
open Go.Proofs.YtigbknmiidhblaaGreatDoor.el2 Go.Proofs.YtigbknmiidhblaaGreatDoor.tx Go.Proofs.YtigbknmiidhblaaGreatDoor.ap Go.Proofs.YtigbknmiidhblaaGreatDoor.bx Go.Proofs.YtigbknmiidhblaaGreatDoor.ad Go.Proofs.YtigbknmiidhblaaGreatDoor.sf Go.Proofs.YtigbknmiidhblaaGreatDoor.dr Go.Proofs.YtigbknmiidhblaaGreatDoor.drt Go.Proofs.YtigbknmiidhblaaGreatDoor.dpr Go.Proofs.YtigbknmiidhblaaGreatDoor.d83
open Go.Proofs.YtigbknmiidhblaaGreatDoor.drh (code_more)
open Go.Proofs.YtigbknmiidhblaaGreatDoor.cur (CurAt CodeAt Kp Only below_calls pick_calls new_calls cur_new)
open Go.Proofs.YtigbknmiidhblaaGreatDoor.vers (new2)
open Go.Proofs.YtigbknmiidhblaaGreatDoor.sl (Ver)
open Go.Proofs.YtigbknmiidhblaaGreatDoor.st (Rs)
set_option linter.unusedVariables false
set_option linter.unusedSimpArgs false
/-- a drawn store and a drawn transaction -/
def DCM (w : World) (e : Ending) (w' : World) : Prop :=
  ∃ (D : Option Addr) (N cN : Nat) (C : List (List Ver)) (x : Hd) (A : Option Addr) (n c : Nat) (R : List E2) (A2 : Option Addr) (n2 c2 : Nat) (S : List E2) (k : Int), e = .returned (.tuple #[.agg #[.slice D N cN], txv x (.slice A n c) (.slice A2 n2 c2), .int .i64 k]) ∧ (N ≤ 6 ∧ ∀ l ∈ C, List.length l ≤ 5) ∧ n ≤ 5 ∧ n2 ≤ 5 ∧ Rs w' w'.heap.size D N C ∧ OwnT w' w.heap.size (.slice A n c) n R (.slice A2 n2 c2) n2 S ∧ Below w.heap.size w w'
set_option maxRecDepth 100000 in
set_option maxHeartbeats 6400000 in
theorem draw_cm (a : Option Addr) (len cap : Nat) (w : World) (hl : len ≤ 1048576) (hcode : CodeAt w w.heap.size a len) :
    Calls Tryz.prog 6 #[.slice a len cap] w (DCM w) := by
  have hb0 := new2 w (.cells #[.slice none 0 0] 26) (.cells #[.int .i64 0, .int .i64 0, .int .i64 0, .int .i64 0, .int .i64 0, .int .i64 0, .int .i64 0, .slice none 0 0, .slice none 0 0] 30)
  have HP := Lib.hid (draw_three a len cap ((w.alloc (.cells #[.slice none 0 0] 26)).alloc (.cells #[.int .i64 0, .int .i64 0, .int .i64 0, .int .i64 0, .int .i64 0, .int .i64 0, .int .i64 0, .slice none 0 0, .slice none 0 0] 30)) hl (code_more (hcode.below (Nat.le_refl _) hb0) hb0.size))
  clear hcode
  go_enter Tryz.func6, Tryz.ntmps6
  go_wp2_with fail
  have zs : Sx ((w.alloc (.cells #[.slice none 0 0] 26)).alloc (.cells #[.int .i64 0, .int .i64 0, .int .i64 0, .int .i64 0, .int .i64 0, .int .i64 0, .int .i64 0, .slice none 0 0, .slice none 0 0] 30)) w.heap.size (.slice none 0 0) := (Sx.new w (.slice none 0 0)).of_block ((new1 (w.alloc (.cells #[.slice none 0 0] 26)) (.cells #[.int .i64 0, .int .i64 0, .int .i64 0, .int .i64 0, .int .i64 0, .int .i64 0, .int .i64 0, .slice none 0 0, .slice none 0 0] 30)).block w.heap.size (by simp))
  have zr := Bx.zero (w.alloc (.cells #[.slice none 0 0] 26))
  rw [show (w.alloc (.cells #[.slice none 0 0] 26)).heap.size = w.heap.size + 1 by simp] at zr
  have hs0 : ((w.alloc (.cells #[.slice none 0 0] 26)).alloc (.cells #[.int .i64 0, .int .i64 0, .int .i64 0, .int .i64 0, .int .i64 0, .int .i64 0, .int .i64 0, .slice none 0 0, .slice none 0 0] 30)).heap.size = w.heap.size + 2 := by simp
  have hs0' : w.heap.size + 2 ≤ ((w.alloc (.cells #[.slice none 0 0] 26)).alloc (.cells #[.int .i64 0, .int .i64 0, .int .i64 0, .int .i64 0, .int .i64 0, .int .i64 0, .int .i64 0, .slice none 0 0, .slice none 0 0] 30)).heap.size := by simp
  generalize (w.alloc _).alloc _ = w0 at hb0 zs zr hs0 hs0' HP ⊢
  have HB0 := Lib.hid hb0
  have HS0 := Lib.hid hs0
  clear hb0 hs0
  refine HP.out.mono ?_
  rintro e W1 ⟨D, N, cN, C, x, A, n, c, R, A2, n2, c2, S, k, rfl, ⟨hN, hsh⟩, hn, hn2, hrs, hown, hb1, hs1⟩
  have HSH := Lib.hid hsh
  clear hsh
  have HRS := Lib.hid hrs
  have hb01 := HB0.out.trans (hb1.mono HB0.out.size)
  have zs1 := zs.of_block (hb1.block w.heap.size (by omega))
  have zr1 := zr.of_block (hb1.block (w.heap.size + 1) (by omega))
  have hnn := new2 W1 (.cells #[.slice D N cN] 26) (.cells #[.int .i64 x.i, .int .i64 x.s, .int .i64 x.t, .int .i64 x.b, .int .i64 x.l, .int .i64 x.h, .int .i64 x.c, .slice A n c, .slice A2 n2 c2] 30)
  have st3 := st.up (.cells #[.int .i64 x.i, .int .i64 x.s, .int .i64 x.t, .int .i64 x.b, .int .i64 x.l, .int .i64 x.h, .int .i64 x.c, .slice A n c, .slice A2 n2 c2] 30) (st.one_cell W1 (.slice D N cN) 26) (by simp)
  have bx3 := Bx.new (W1.alloc (.cells #[.slice D N cN] 26)) x (.slice A n c) (.slice A2 n2 c2)
  rw [show (W1.alloc (.cells #[.slice D N cN] 26)).heap.size = W1.heap.size + 1 by simp] at bx3
  have zs3 := zs1.of_block (hnn.block w.heap.size (by omega))
  have zr3 := zr1.of_block (hnn.block (w.heap.size + 1) (by omega))
  have ow3 := (hown.more (show w.heap.size + 2 ≤ _ by omega)).keep hnn
  have hb3 := hb01.trans (hnn.mono (by have := hb01.size; omega))
  have hl3 : W1.heap.size + 2 ≤ ((W1.alloc (.cells #[.slice D N cN] 26)).alloc (.cells #[.int .i64 x.i, .int .i64 x.s, .int .i64 x.t, .int .i64 x.b, .int .i64 x.l, .int .i64 x.h, .int .i64 x.c, .slice A n c, .slice A2 n2 c2] 30)).heap.size := by simp
  have hz3 : w.heap.size + 5 ≤ W1.heap.size := by omega
  clear hrs hown zs1 zr1 zs zr hb01 hb1
  go_wp2_with fail
  generalize hsb : W1.heap.size = sb at st3 bx3 hl3 hz3 ⊢
  have hq3 : ∀ q, q < sb → ((W1.alloc (.cells #[.slice D N cN] 26)).alloc (.cells #[.int .i64 x.i, .int .i64 x.s, .int .i64 x.t, .int .i64 x.b, .int .i64 x.l, .int .i64 x.h, .int .i64 x.c, .slice A n c, .slice A2 n2 c2] 30)).heap[q]? = W1.heap[q]? := fun q hq => hnn.block q (by omega)
  generalize (W1.alloc _).alloc _ = W3 at st3 bx3 zs3 zr3 ow3 hb3 hl3 hq3 ⊢
  have HQ3 := Lib.hid hq3
  have OW := Lib.hid ow3
  have HB3 := Lib.hid hb3
  have ZS3 := Lib.hid zs3
  have ZR3 := Lib.hid zr3
  clear hnn hq3 ow3 hb3
  obtain ⟨t0, t1, t2, t3, t4, t5, t6, t7, t8⟩ := bx3.tb
  have s0 := zs3.cell
  have g0 := zs3.fz
  obtain ⟨z0, z1, z2, z3, z4, z5, z6, z7, z8⟩ := zr3.tb
  have y0 := zr3.fz 0
  have y1 := zr3.fz 1
  have y2 := zr3.fz 2
  have y3 := zr3.fz 3
  have y4 := zr3.fz 4
  have y5 := zr3.fz 5
  have y6 := zr3.fz 6
  have y7 := zr3.fz 7
  have y8 := zr3.fz 8
  clear bx3 zs3 zr3
  try go_wp2_with fail
  go_region_held3 (fun w' => w'.cell? ⟨sb, 0, none⟩ = some (.slice D N cN) ∧ w'.cell? ⟨sb + 1, 0, none⟩ = some (.int .i64 x.i) ∧ w'.cell? ⟨sb + 1, 1, none⟩ = some (.int .i64 x.s) ∧ w'.cell? ⟨sb + 1, 2, none⟩ = some (.int .i64 x.t) ∧ w'.cell? ⟨sb + 1, 3, none⟩ = some (.int .i64 x.b) ∧ w'.cell? ⟨sb + 1, 4, none⟩ = some (.int .i64 x.l) ∧ w'.cell? ⟨sb + 1, 5, none⟩ = some (.int .i64 x.h) ∧ w'.cell? ⟨sb + 1, 6, none⟩ = some (.int .i64 x.c) ∧ w'.cell? ⟨sb + 1, 7, none⟩ = some (.slice A n c) ∧ w'.cell? ⟨sb + 1, 8, none⟩ = some (.slice A2 n2 c2)) (first | ((repeat' apply And.intro) <;> first | with_reducible exact (put9_celld (by simp only; omega)).trans (by assumption) | with_reducible exact (cell1d (by simp only; omega)).trans (by assumption) | with_reducible exact (put9_cell (by simp only; omega)).trans (by assumption) | with_reducible exact (cell1 (by simp only; omega)).trans (by assumption) | with_reducible exact (put9_celld (by simp only; omega)).trans ((cell1 (by simp only; omega)).trans (by assumption)) | with_reducible exact (cell1d (by simp only; omega)).trans ((put9_cell (by simp only; omega)).trans (by assumption)) | with_reducible exact (put9_cell (by simp only; omega)).trans ((cell1 (by simp only; omega)).trans (by assumption)) | with_reducible exact (cell1 (by simp only; omega)).trans ((put9_cell (by simp only; omega)).trans (by assumption))) | go_keep) (fail)
  all_goals
    have hF := fun W' hW => fin_19 (W' := W') (x := x) (A := A) (n := n) (c := c) (R := R) (A2 := A2) (n2 := n2) (c2 := c2) (S := S) (D := D) (N := N) (cN := cN) ZS3.out ZR3.out OW.out HB3.out (Nat.le_refl _) (Nat.le_succ _) (by omega) (by omega) (by omega) hW
    have hG := fun W' hW => fin_91 (W' := W') (x := x) (A := A) (n := n) (c := c) (R := R) (A2 := A2) (n2 := n2) (c2 := c2) (S := S) (D := D) (N := N) (cN := cN) ZS3.out ZR3.out OW.out HB3.out (Nat.le_refl _) (Nat.le_succ _) (by omega) (by omega) (by omega) hW
    clear t0 t1 t2 t3 t4 t5 t6 t7 t8 st3 s0 g0 z0 z1 z2 z3 z4 z5 z6 z7 z8 y0 y1 y2 y3 y4 y5 y6 y7 y8
    try go_wp2_with fail
    generalize hW : World.setCell _ _ _ = W8x
    obtain ⟨q9, ⟨q0, q1, q2, q3, q4, q5, q6, q7, q8⟩, _⟩ := (by first | exact hF W8x hW | exact hG W8x hW : Fin6 w W3 W8x w.heap.size (w.heap.size + 1) x A n c R A2 n2 c2 S D N cN (w.heap.size + 2))
    obtain ⟨e9, ⟨e0, e1, e2, e3, e4, e5, e6, e7, e8⟩, hO, hB9, hz9, hk9⟩ := (by first | exact (hF W8x hW).drew | exact (hG W8x hW).drew : Fin6 w W3 W8x.drew w.heap.size (w.heap.size + 1) x A n c R A2 n2 c2 S D N cN (w.heap.size + 2))
    have hrs9 := HRS.out W8x.drew (by omega) (fun q h1 h2 => (hk9 q (by omega) (by omega)).trans (HQ3.out q (by omega)))
    exact bodyPost_ret (v := .tuple #[.agg #[.slice D N cN], txv x (.slice A n c) (.slice A2 n2 c2), .int .i64 k]) (by simp [results, Tryz.results6, go_sem, e0, e1, e2, e3, e4, e5, e6, e7, e8, e9, q0, q1, q2, q3, q4, q5, q6, q7, q8, q9]) rfl ⟨D, N, cN, C, x, A, n, c, R, A2, n2, c2, S, k, rfl, ⟨hN, HSH.out⟩, hn, hn2, hrs9, hO.more (by omega), hB9⟩
end Go.Proofs.YtigbknmiidhblaaGreatDoor.dcm
