/- FnExclusion holds at every code: the law returns true and writes nothing that was there; its three listed variables are tied to the text of the program. No other condition. -/
import Derived.Test.YtbnkkgjkhpbgiaaGreatDoorSf
import Derived.Test.YtbnkkgjkhpbgiaaGreatDoorDrawn
import Derived.Test.YtbnkkgjkhpbgiaaGreatDoorDany
import Derived.Test.YtbnkkgjkhpbgiaaGreatDoorLt
import Derived.Test.YtbnkkgjkhpbgiaaGreatDoorXg
import Derived.Test.YtbnkkgjkhpbgiaaGreatDoorTf
import Derived.Laws.StructEq
import Derived.Test.YtbnkkgjkhpbgiaaGreatDoorCards
import Derived.Test.YtbnkkgjkhpbgiaaGreatDoorTie
import Derived.OpenVars
import Derived.OpenShut
import Derived.WalkKit
import Derived.ProofKit
import Derived.ShutString
import Derived.ChangeOld
import Derived.Below
import Derived.Carry
import Derived.Lib.Hide
import Derived.StillTailTactics
import Derived.Deep.RegionHeld3
import Derived.Deep.DeepHandedRow
/- The model's l3Version and l1Once: a drawn version, a drawn chance. -/
namespace Go.Proofs.YtbnkkgjkhpbgiaaGreatDoor.dr
open Go.ChangeShapes Go.WideShapes Go.ChangeAt Go.RowKit
open Go.Proofs.YtbnkkgjkhpbgiaaGreatDoor.el2 Go.Proofs.YtbnkkgjkhpbgiaaGreatDoor.tx Go.Proofs.YtbnkkgjkhpbgiaaGreatDoor.bx Go.Proofs.YtbnkkgjkhpbgiaaGreatDoor.sf
open Go.Proofs.YtbnkkgjkhpbgiaaGreatDoor.cur (CurAt CodeAt Kp Only below_calls pick_calls)
open Go.Proofs.YtbnkkgjkhpbgiaaGreatDoor.sl (Ver)
set_option linter.unusedVariables false
set_option linter.unusedSimpArgs false
/-- a box of a version -/
def Vx (w : World) (b : Nat) (x : Ver) : Prop := ∃ f, w.rowIs b 72 5 f ∧ f 0 = .int .i64 x.a ∧ f 1 = .int .i64 x.b ∧ f 2 = .int .i64 x.c ∧ f 3 = .int .i64 x.d ∧ f 4 = .int .i64 x.e
section
variable {w w' : World} {b : Nat} {x y : Ver}
theorem Vx.at_ (h : Vx w b x) : Go.Proofs.YtbnkkgjkhpbgiaaGreatDoor.sl.At w b 0 x := by
  obtain ⟨f, hf, h0, h1, h2, h3, h4⟩ := h
  exact ⟨(hf.cell (show 0 < 5 by decide)).trans (by rw [h0]), (hf.cell (show 1 < 5 by decide)).trans (by rw [h1]), (hf.cell (show 2 < 5 by decide)).trans (by rw [h2]), (hf.cell (show 3 < 5 by decide)).trans (by rw [h3]), (hf.cell (show 4 < 5 by decide)).trans (by rw [h4])⟩
theorem Vx.cells (h : Vx w b x) : w.cell? ⟨b, 0, none⟩ = some (.int .i64 x.a) ∧ w.cell? ⟨b, 1, none⟩ = some (.int .i64 x.b) ∧ w.cell? ⟨b, 2, none⟩ = some (.int .i64 x.c) ∧ w.cell? ⟨b, 3, none⟩ = some (.int .i64 x.d) ∧ w.cell? ⟨b, 4, none⟩ = some (.int .i64 x.e) := h.at_
theorem Vx.fz (h : Vx w b x) (i : Nat) : w.frozen? ⟨b, i, none⟩ = false := by obtain ⟨f, hf, _⟩ := h; exact hf.frozen i
theorem Vx.lt (h : Vx w b x) : b < w.heap.size := by obtain ⟨f, hf, _⟩ := h; exact hf.lt
theorem Vx.of_block (h : Vx w b x) (hk : w'.heap[b]? = w.heap[b]?) : Vx w' b x := by obtain ⟨f, hf, hr⟩ := h; exact ⟨f, hf.of_block hk, hr⟩
theorem Vx.new (w : World) (x : Ver) : Vx (w.alloc (.cells #[.int .i64 x.a, .int .i64 x.b, .int .i64 x.c, .int .i64 x.d, .int .i64 x.e] 72)) w.heap.size x :=
  ⟨fun i => if i = 0 then .int .i64 x.a else if i = 1 then .int .i64 x.b else if i = 2 then .int .i64 x.c else if i = 3 then .int .i64 x.d else .int .i64 x.e, World.rowIs_alloc w #[.int .i64 x.a, .int .i64 x.b, .int .i64 x.c, .int .i64 x.d, .int .i64 x.e] 72 _ (fun i hi => by
    have : i = 0 ∨ i = 1 ∨ i = 2 ∨ i = 3 ∨ i = 4 := by simp at hi; omega
    rcases this with rfl | rfl | rfl | rfl | rfl <;> rfl), rfl, rfl, rfl, rfl, rfl⟩
theorem Vx.zero (w : World) : Vx (w.alloc (.cells #[.int .i64 0, .int .i64 0, .int .i64 0, .int .i64 0, .int .i64 0] 72)) w.heap.size ⟨0, 0, 0, 0, 0⟩ := Vx.new w ⟨0, 0, 0, 0, 0⟩
theorem Vx.put (h : Vx w b y) (x : Ver) : Vx (World.setCell (World.setCell (World.setCell (World.setCell (World.setCell w ⟨b, 0, none⟩ (.int .i64 x.a)) ⟨b, 1, none⟩ (.int .i64 x.b)) ⟨b, 2, none⟩ (.int .i64 x.c)) ⟨b, 3, none⟩ (.int .i64 x.d)) ⟨b, 4, none⟩ (.int .i64 x.e)) b x := by
  obtain ⟨f, hf, _⟩ := h
  exact ⟨_, ((((hf.set 0 (.int .i64 x.a)).set 1 (.int .i64 x.b)).set 2 (.int .i64 x.c)).set 3 (.int .i64 x.d)).set 4 (.int .i64 x.e), rfl, rfl, rfl, rfl, rfl⟩
end
section
variable {w W W' : World} {B b len cap q : Nat} {a : Option Addr}
/-- a change of a block that is new since the start -/
theorem off_grown {q : Nat} (ho : Off q W W') : W.grownBy W' (some q) := ⟨ho.os, ho.tape, ho.output, by rw [ho.size]; exact Nat.le_refl _, fun k _ hk => ho.block k (fun e => hk (by rw [e]))⟩
theorem kp_off (h : Kp B b w W) (hB : B ≤ w.heap.size) (hq : w.heap.size ≤ q) (ho : Off q W W') : Kp B b w W' := h.grown (off_grown ho) hB (fun k e => by injection e with e; omega)
theorem cur_off (h : CurAt W b a len cap) (hq : b ≠ q) (ho : Off q W W') : CurAt W' b a len cap := h.grown (off_grown ho) (fun e => by injection e with e; exact hq e)
end
/-- a drawn version -/
def DVr (B b : Nat) (a : Option Addr) (len cap : Nat) (w : World) (e : Ending) (w' : World) : Prop :=
  ∃ v : Ver, e = .returned (.agg #[.int .i64 v.a, .int .i64 v.b, .int .i64 v.c, .int .i64 v.d, .int .i64 v.e]) ∧ CurAt w' b a len cap ∧ Kp B b w w'
set_option maxHeartbeats 800000 in
theorem once_calls (b B : Nat) (a : Option Addr) (len cap : Nat) (n : Int) (w : World) (hl : len ≤ 1048576) (hc : CurAt w b a len cap) (hcode : CodeAt w B a len) (hB : B ≤ b) (h0 : 0 < n) :
    Calls Tryz.prog 75 #[.pointer (some ⟨b, 0, none⟩), .int .i64 n] w fun e w' => ∃ x : Bool, e = .returned (.bool x) ∧ CurAt w' b a len cap ∧ Only b w w' := by
  have HK := Lib.hid (below_calls b B a len cap n w hl hc hcode hB h0)
  clear hc hcode
  go_enter Tryz.func75, Tryz.ntmps75
  go_wp2_with fail
  refine HK.out.mono ?_
  rintro e W1 ⟨x, rfl, hx0, hx1, hc1, ho1⟩
  have HC := Lib.hid hc1
  have HO := Lib.hid ho1
  clear hc1 ho1 HK
  by_cases hx : x = 0
  · have t : (x == 0) = true := by simp [hx]
    go_wp2_with fail
    go_ret
    exact ⟨_, rfl, HC.out, HO.out⟩
  · have t : (x == 0) = false := by simp [hx]
    go_wp2_with fail
    go_ret
    exact ⟨_, rfl, HC.out, HO.out⟩
end Go.Proofs.YtbnkkgjkhpbgiaaGreatDoor.dr
/- The model's DrawTrackRead: a drawn transaction, a key, a version. -/
namespace Go.Proofs.YtbnkkgjkhpbgiaaGreatDoor.drt
open Go.ChangeShapes Go.WideShapes Go.ChangeAt Go.RowKit
open Go.Proofs.YtbnkkgjkhpbgiaaGreatDoor.el2 Go.Proofs.YtbnkkgjkhpbgiaaGreatDoor.tx Go.Proofs.YtbnkkgjkhpbgiaaGreatDoor.ap Go.Proofs.YtbnkkgjkhpbgiaaGreatDoor.bx Go.Proofs.YtbnkkgjkhpbgiaaGreatDoor.ad Go.Proofs.YtbnkkgjkhpbgiaaGreatDoor.sf Go.Proofs.YtbnkkgjkhpbgiaaGreatDoor.dr
open Go.Proofs.YtbnkkgjkhpbgiaaGreatDoor.cur (CurAt CodeAt Kp Only below_calls pick_calls new_calls cur_new)
open Go.Proofs.YtbnkkgjkhpbgiaaGreatDoor.vers (new2)
open Go.Proofs.YtbnkkgjkhpbgiaaGreatDoor.sl (Ver)
set_option linter.unusedVariables false
set_option linter.unusedSimpArgs false
section
variable {w W W' : World} {B b base tb n c n2 c2 : Nat} {x : Hd} {A A2 : Option Addr} {R S : List E2}
theorem Bo.kp (h : Bo W base tb x A n c R A2 n2 c2 S) (hb : b < base) (hk : Kp B b W W') : Bo W' base tb x A n c R A2 n2 c2 S :=
  ⟨h.bx.of_block (hk.gr.block tb h.lt (fun e => by injection e with e; have := h.le; omega)), ⟨own_same h.own.1 fun g hg => by
    obtain ⟨h1, cur, hh⟩ := own_block h.own.1 hg
    exact hk.gr.block g (heap_lt hh) (fun e => by injection e with e; omega), own_same h.own.2 fun g hg => by
    obtain ⟨h1, cur, hh⟩ := own_block h.own.2 hg
    exact hk.gr.block g (heap_lt hh) (fun e => by injection e with e; omega)⟩, h.le⟩
theorem put9_cell {V : World} {bb : Nat} {x : Hd} {u v : Value} {p : Addr} (h : p.block ≠ bb) : World.cell? (World.setCell (World.setCell (World.setCell (World.setCell (World.setCell (World.setCell (World.setCell (World.setCell (World.setCell V ⟨bb, 0, none⟩ (.int .i64 x.i)) ⟨bb, 1, none⟩ (.int .i64 x.s)) ⟨bb, 2, none⟩ (.int .i64 x.t)) ⟨bb, 3, none⟩ (.int .i64 x.b)) ⟨bb, 4, none⟩ (.int .i64 x.l)) ⟨bb, 5, none⟩ (.int .i64 x.h)) ⟨bb, 6, none⟩ (.int .i64 x.c)) ⟨bb, 7, none⟩ u) ⟨bb, 8, none⟩ v) p = V.cell? p := Go.Proofs.YtbnkkgjkhpbgiaaGreatDoor.lt.put_cell h
end
section
variable {w W W' : World} {rb vb base tb n c n2 c2 : Nat} {x : Hd} {A A2 : Option Addr} {R S : List E2} {v : Ver}
/-- what a caller sees when the two results have been laid -/
def Fin (w W' : World) (rb vb : Nat) (x : Hd) (A : Option Addr) (n c : Nat) (R : List E2) (A2 : Option Addr) (n2 c2 : Nat) (S : List E2) (v : Ver) : Prop :=
  TB W' rb x (.slice A n c) (.slice A2 n2 c2) ∧ Go.Proofs.YtbnkkgjkhpbgiaaGreatDoor.sl.At W' vb 0 v ∧ OwnT W' w.heap.size (.slice A n c) n R (.slice A2 n2 c2) n2 S ∧ Below w.heap.size w W'
theorem fin_95 (hz : Bx W rb ⟨0, 0, 0, 0, 0, 0, 0⟩ (.slice none 0 0) (.slice none 0 0)) (hv : Vx W vb ⟨0, 0, 0, 0, 0⟩) (hB : Bo W base tb x A n c R A2 n2 c2 S) (hbel : Below w.heap.size w W) (h1 : w.heap.size ≤ rb) (h2 : w.heap.size ≤ vb) (hne : rb ≠ vb) (h3 : rb < base) (h4 : vb < base) (hw : w.heap.size ≤ base)
    (hW : (World.setCell (World.setCell (World.setCell (World.setCell (World.setCell (World.setCell (World.setCell (World.setCell (World.setCell (World.setCell (World.setCell (World.setCell (World.setCell (World.setCell W ⟨rb, 0, none⟩ (.int .i64 x.i)) ⟨rb, 1, none⟩ (.int .i64 x.s)) ⟨rb, 2, none⟩ (.int .i64 x.t)) ⟨rb, 3, none⟩ (.int .i64 x.b)) ⟨rb, 4, none⟩ (.int .i64 x.l)) ⟨rb, 5, none⟩ (.int .i64 x.h)) ⟨rb, 6, none⟩ (.int .i64 x.c)) ⟨rb, 7, none⟩ (.slice A n c)) ⟨rb, 8, none⟩ (.slice A2 n2 c2)) ⟨vb, 0, none⟩ (.int .i64 v.a)) ⟨vb, 1, none⟩ (.int .i64 v.b)) ⟨vb, 2, none⟩ (.int .i64 v.c)) ⟨vb, 3, none⟩ (.int .i64 v.d)) ⟨vb, 4, none⟩ (.int .i64 v.e)) = W') : Fin w W' rb vb x A n c R A2 n2 c2 S v := by
  have o1 := off_put W rb x (.slice A n c) (.slice A2 n2 c2)
  have b1 := hz.put x (.slice A n c) (.slice A2 n2 c2)
  have v1 := hv.of_block (o1.block vb (fun e => hne e.symm))
  have w1 := hB.own.off o1 h3
  have l1 := hbel.trans (o1.below h1)
  generalize (World.setCell (World.setCell (World.setCell (World.setCell (World.setCell (World.setCell (World.setCell (World.setCell (World.setCell W ⟨rb, 0, none⟩ (.int .i64 x.i)) ⟨rb, 1, none⟩ (.int .i64 x.s)) ⟨rb, 2, none⟩ (.int .i64 x.t)) ⟨rb, 3, none⟩ (.int .i64 x.b)) ⟨rb, 4, none⟩ (.int .i64 x.l)) ⟨rb, 5, none⟩ (.int .i64 x.h)) ⟨rb, 6, none⟩ (.int .i64 x.c)) ⟨rb, 7, none⟩ (.slice A n c)) ⟨rb, 8, none⟩ (.slice A2 n2 c2)) = W1 at o1 b1 v1 w1 l1 hW
  have o2 := off5 W1 vb (.int .i64 v.a) (.int .i64 v.b) (.int .i64 v.c) (.int .i64 v.d) (.int .i64 v.e)
  have v2 := v1.put v
  rw [hW] at o2 v2
  exact ⟨(b1.of_block (o2.block rb hne)).tb, v2.at_, (w1.off o2 h4).more hw, l1.trans (o2.below h2)⟩
theorem fin_59 (hz : Bx W rb ⟨0, 0, 0, 0, 0, 0, 0⟩ (.slice none 0 0) (.slice none 0 0)) (hv : Vx W vb ⟨0, 0, 0, 0, 0⟩) (hB : Bo W base tb x A n c R A2 n2 c2 S) (hbel : Below w.heap.size w W) (h1 : w.heap.size ≤ rb) (h2 : w.heap.size ≤ vb) (hne : rb ≠ vb) (h3 : rb < base) (h4 : vb < base) (hw : w.heap.size ≤ base)
    (hW : (World.setCell (World.setCell (World.setCell (World.setCell (World.setCell (World.setCell (World.setCell (World.setCell (World.setCell (World.setCell (World.setCell (World.setCell (World.setCell (World.setCell W ⟨vb, 0, none⟩ (.int .i64 v.a)) ⟨vb, 1, none⟩ (.int .i64 v.b)) ⟨vb, 2, none⟩ (.int .i64 v.c)) ⟨vb, 3, none⟩ (.int .i64 v.d)) ⟨vb, 4, none⟩ (.int .i64 v.e)) ⟨rb, 0, none⟩ (.int .i64 x.i)) ⟨rb, 1, none⟩ (.int .i64 x.s)) ⟨rb, 2, none⟩ (.int .i64 x.t)) ⟨rb, 3, none⟩ (.int .i64 x.b)) ⟨rb, 4, none⟩ (.int .i64 x.l)) ⟨rb, 5, none⟩ (.int .i64 x.h)) ⟨rb, 6, none⟩ (.int .i64 x.c)) ⟨rb, 7, none⟩ (.slice A n c)) ⟨rb, 8, none⟩ (.slice A2 n2 c2)) = W') : Fin w W' rb vb x A n c R A2 n2 c2 S v := by
  have o1 := off5 W vb (.int .i64 v.a) (.int .i64 v.b) (.int .i64 v.c) (.int .i64 v.d) (.int .i64 v.e)
  have v1 := hv.put v
  have b1 := hz.of_block (o1.block rb hne)
  have w1 := hB.own.off o1 h4
  have l1 := hbel.trans (o1.below h2)
  generalize (World.setCell (World.setCell (World.setCell (World.setCell (World.setCell W ⟨vb, 0, none⟩ (.int .i64 v.a)) ⟨vb, 1, none⟩ (.int .i64 v.b)) ⟨vb, 2, none⟩ (.int .i64 v.c)) ⟨vb, 3, none⟩ (.int .i64 v.d)) ⟨vb, 4, none⟩ (.int .i64 v.e)) = W1 at o1 b1 v1 w1 l1 hW
  have o2 := off_put W1 rb x (.slice A n c) (.slice A2 n2 c2)
  have b2 := b1.put x (.slice A n c) (.slice A2 n2 c2)
  rw [hW] at o2 b2
  exact ⟨b2.tb, (v1.of_block (o2.block vb (fun e => hne e.symm))).at_, (w1.off o2 h3).more hw, l1.trans (o2.below h1)⟩
end
/-- a drawn transaction, a key, a version -/
def DTR (w : World) (e : Ending) (w' : World) : Prop :=
  ∃ (x : Hd) (A : Option Addr) (n c : Nat) (R : List E2) (A2 : Option Addr) (n2 c2 : Nat) (S : List E2) (k : Int) (v : Ver), e = .returned (.tuple #[txv x (.slice A n c) (.slice A2 n2 c2), .int .i64 k, .agg #[.int .i64 v.a, .int .i64 v.b, .int .i64 v.c, .int .i64 v.d, .int .i64 v.e]]) ∧ n ≤ 5 ∧ n2 ≤ 5 ∧ OwnT w' w.heap.size (.slice A n c) n R (.slice A2 n2 c2) n2 S ∧ Below w.heap.size w w'
end Go.Proofs.YtbnkkgjkhpbgiaaGreatDoor.drt
/- The model's l6Pair and DrawRefreshHigh: a drawn store and a drawn transaction. -/
namespace Go.Proofs.YtbnkkgjkhpbgiaaGreatDoor.dpr
open Go.ChangeShapes Go.WideShapes Go.ChangeAt Go.RowKit
open Go.Proofs.YtbnkkgjkhpbgiaaGreatDoor.el2 Go.Proofs.YtbnkkgjkhpbgiaaGreatDoor.tx Go.Proofs.YtbnkkgjkhpbgiaaGreatDoor.ap Go.Proofs.YtbnkkgjkhpbgiaaGreatDoor.bx Go.Proofs.YtbnkkgjkhpbgiaaGreatDoor.ad Go.Proofs.YtbnkkgjkhpbgiaaGreatDoor.sf Go.Proofs.YtbnkkgjkhpbgiaaGreatDoor.dr Go.Proofs.YtbnkkgjkhpbgiaaGreatDoor.drt
open Go.Proofs.YtbnkkgjkhpbgiaaGreatDoor.cur (CurAt CodeAt Kp Only below_calls pick_calls new_calls cur_new)
open Go.Proofs.YtbnkkgjkhpbgiaaGreatDoor.vers (new2)
open Go.Proofs.YtbnkkgjkhpbgiaaGreatDoor.sl (Ver)
open Go.Proofs.YtbnkkgjkhpbgiaaGreatDoor.st (Rs)
set_option linter.unusedVariables false
set_option linter.unusedSimpArgs false
theorem cell1 {V : World} {bb : Nat} {u : Value} {p : Addr} (h : p.block ≠ bb) : World.cell? (World.setCell V ⟨bb, 0, none⟩ u) p = V.cell? p :=
  World.cell?_of_block (a := p) (((Off.refl bb V).setCell (p := ⟨bb, 0, none⟩) rfl u).block _ h)
theorem cell_d (W : World) (p : Addr) : W.drew.cell? p = W.cell? p := rfl
theorem cell1d {V : World} {bb : Nat} {u : Value} {p : Addr} (h : p.block ≠ bb) : World.cell? (World.drew (World.setCell V ⟨bb, 0, none⟩ u)) p = V.cell? p := (cell_d _ _).trans (cell1 h)
theorem put9_celld {V : World} {bb : Nat} {x : Hd} {u v : Value} {p : Addr} (h : p.block ≠ bb) : World.cell? (World.drew (World.setCell (World.setCell (World.setCell (World.setCell (World.setCell (World.setCell (World.setCell (World.setCell (World.setCell V ⟨bb, 0, none⟩ (.int .i64 x.i)) ⟨bb, 1, none⟩ (.int .i64 x.s)) ⟨bb, 2, none⟩ (.int .i64 x.t)) ⟨bb, 3, none⟩ (.int .i64 x.b)) ⟨bb, 4, none⟩ (.int .i64 x.l)) ⟨bb, 5, none⟩ (.int .i64 x.h)) ⟨bb, 6, none⟩ (.int .i64 x.c)) ⟨bb, 7, none⟩ u) ⟨bb, 8, none⟩ v)) p = V.cell? p := (cell_d _ _).trans (put9_cell h)
/-- a box of a store, to be written -/
def Sx (w : World) (b : Nat) (u : Value) : Prop := w.rowIs b 26 1 (fun _ => u)
section
variable {w w' : World} {b : Nat} {u v : Value}
theorem Sx.cell (h : Sx w b u) : w.cell? ⟨b, 0, none⟩ = some u := World.rowIs.cell h (show 0 < 1 by decide)
theorem Sx.fz (h : Sx w b u) : w.frozen? ⟨b, 0, none⟩ = false := World.rowIs.frozen h 0
theorem Sx.lt (h : Sx w b u) : b < w.heap.size := World.rowIs.lt h
theorem Sx.of_block (h : Sx w b u) (hk : w'.heap[b]? = w.heap[b]?) : Sx w' b u := World.rowIs.of_block h hk
theorem Sx.new (w : World) (u : Value) : Sx (w.alloc (.cells #[u] 26)) w.heap.size u := World.rowIs_alloc w #[u] 26 (fun _ => u) (fun i hi => by
  have : i = 0 := by simp at hi; exact hi
  subst this; rfl)
theorem Sx.put (h : Sx w b u) (v : Value) : Sx (w.setCell ⟨b, 0, none⟩ v) b v := (World.rowIs.set h 0 v).congr (fun i hi => by
  have : i = 0 := by omega
  subst this; rfl)
end
section
variable {w W W' : World} {sb rb base tb n c n2 c2 N cN : Nat} {x : Hd} {A A2 D : Option Addr} {R S : List E2} {v : Ver}
/-- the two results have been laid: what else is there stays -/
def Fin6 (w W W' : World) (sb rb : Nat) (x : Hd) (A : Option Addr) (n c : Nat) (R : List E2) (A2 : Option Addr) (n2 c2 : Nat) (S : List E2) (D : Option Addr) (N cN base : Nat) : Prop :=
  W'.cell? ⟨sb, 0, none⟩ = some (.slice D N cN) ∧ TB W' rb x (.slice A n c) (.slice A2 n2 c2) ∧ OwnT W' base (.slice A n c) n R (.slice A2 n2 c2) n2 S ∧ Below w.heap.size w W' ∧ W'.heap.size = W.heap.size ∧ ∀ k, k ≠ sb → k ≠ rb → W'.heap[k]? = W.heap[k]?
theorem fin_19 (hs : Sx W sb (.slice none 0 0)) (hz : Bx W rb ⟨0, 0, 0, 0, 0, 0, 0⟩ (.slice none 0 0) (.slice none 0 0)) (hB : OwnT W base (.slice A n c) n R (.slice A2 n2 c2) n2 S) (hbel : Below w.heap.size w W) (h1 : w.heap.size ≤ sb) (h2 : w.heap.size ≤ rb) (hne : sb ≠ rb) (h3 : rb < base) (h4 : sb < base)
    (hW : (World.setCell (World.setCell (World.setCell (World.setCell (World.setCell (World.setCell (World.setCell (World.setCell (World.setCell (World.setCell W ⟨sb, 0, none⟩ (.slice D N cN)) ⟨rb, 0, none⟩ (.int .i64 x.i)) ⟨rb, 1, none⟩ (.int .i64 x.s)) ⟨rb, 2, none⟩ (.int .i64 x.t)) ⟨rb, 3, none⟩ (.int .i64 x.b)) ⟨rb, 4, none⟩ (.int .i64 x.l)) ⟨rb, 5, none⟩ (.int .i64 x.h)) ⟨rb, 6, none⟩ (.int .i64 x.c)) ⟨rb, 7, none⟩ (.slice A n c)) ⟨rb, 8, none⟩ (.slice A2 n2 c2)) = W') : Fin6 w W W' sb rb x A n c R A2 n2 c2 S D N cN base := by
  have o1 := (Off.refl sb W).setCell (p := ⟨sb, 0, none⟩) rfl (.slice D N cN)
  have s1 := hs.put (.slice D N cN)
  have z1 := hz.of_block (o1.block rb (fun e => hne e.symm))
  have w1 := hB.off o1 h4
  have l1 := hbel.trans (o1.below h1)
  have z1s := o1.size
  generalize (World.setCell W ⟨sb, 0, none⟩ (.slice D N cN)) = W1 at o1 s1 z1 w1 l1 hW z1s
  have o2 := off_put W1 rb x (.slice A n c) (.slice A2 n2 c2)
  have z2 := z1.put x (.slice A n c) (.slice A2 n2 c2)
  rw [hW] at o2 z2
  exact ⟨(s1.of_block (o2.block sb hne)).cell, z2.tb, w1.off o2 h3, l1.trans (o2.below h2), o2.size.trans z1s, fun k k1 k2 => (o2.block k k2).trans (o1.block k k1)⟩
theorem fin_91 (hs : Sx W sb (.slice none 0 0)) (hz : Bx W rb ⟨0, 0, 0, 0, 0, 0, 0⟩ (.slice none 0 0) (.slice none 0 0)) (hB : OwnT W base (.slice A n c) n R (.slice A2 n2 c2) n2 S) (hbel : Below w.heap.size w W) (h1 : w.heap.size ≤ sb) (h2 : w.heap.size ≤ rb) (hne : sb ≠ rb) (h3 : rb < base) (h4 : sb < base)
    (hW : (World.setCell (World.setCell (World.setCell (World.setCell (World.setCell (World.setCell (World.setCell (World.setCell (World.setCell (World.setCell W ⟨rb, 0, none⟩ (.int .i64 x.i)) ⟨rb, 1, none⟩ (.int .i64 x.s)) ⟨rb, 2, none⟩ (.int .i64 x.t)) ⟨rb, 3, none⟩ (.int .i64 x.b)) ⟨rb, 4, none⟩ (.int .i64 x.l)) ⟨rb, 5, none⟩ (.int .i64 x.h)) ⟨rb, 6, none⟩ (.int .i64 x.c)) ⟨rb, 7, none⟩ (.slice A n c)) ⟨rb, 8, none⟩ (.slice A2 n2 c2)) ⟨sb, 0, none⟩ (.slice D N cN)) = W') : Fin6 w W W' sb rb x A n c R A2 n2 c2 S D N cN base := by
  have o1 := off_put W rb x (.slice A n c) (.slice A2 n2 c2)
  have z1 := hz.put x (.slice A n c) (.slice A2 n2 c2)
  have s1 := hs.of_block (o1.block sb hne)
  have w1 := hB.off o1 h3
  have l1 := hbel.trans (o1.below h2)
  have z1s := o1.size
  generalize (World.setCell (World.setCell (World.setCell (World.setCell (World.setCell (World.setCell (World.setCell (World.setCell (World.setCell W ⟨rb, 0, none⟩ (.int .i64 x.i)) ⟨rb, 1, none⟩ (.int .i64 x.s)) ⟨rb, 2, none⟩ (.int .i64 x.t)) ⟨rb, 3, none⟩ (.int .i64 x.b)) ⟨rb, 4, none⟩ (.int .i64 x.l)) ⟨rb, 5, none⟩ (.int .i64 x.h)) ⟨rb, 6, none⟩ (.int .i64 x.c)) ⟨rb, 7, none⟩ (.slice A n c)) ⟨rb, 8, none⟩ (.slice A2 n2 c2)) = W1 at o1 s1 z1 w1 l1 hW z1s
  have o2 := (Off.refl sb W1).setCell (p := ⟨sb, 0, none⟩) rfl (.slice D N cN)
  have s2 := s1.put (.slice D N cN)
  rw [hW] at o2 s2
  exact ⟨s2.cell, (z1.of_block (o2.block rb (fun e => hne e.symm))).tb, w1.off o2 h4, l1.trans (o2.below h1), o2.size.trans z1s, fun k k1 k2 => (o2.block k k1).trans (o1.block k k2)⟩
end
theorem Fin6.drew {w W W' : World} {sb rb base n c n2 c2 N cN : Nat} {x : Hd} {A A2 D : Option Addr} {R S : List E2} (h : Fin6 w W W' sb rb x A n c R A2 n2 c2 S D N cN base) : Fin6 w W W'.drew sb rb x A n c R A2 n2 c2 S D N cN base :=
  ⟨h.1, h.2.1, h.2.2.1, h.2.2.2.1.drew, h.2.2.2.2.1, h.2.2.2.2.2⟩
/-- a drawn store and a drawn transaction, the cursor beside them -/
def DP (a : Option Addr) (len cap : Nat) (w : World) (e : Ending) (w' : World) : Prop :=
  ∃ (D : Option Addr) (N cN : Nat) (C : List (List Ver)) (x : Hd) (A : Option Addr) (n c : Nat) (R : List E2) (A2 : Option Addr) (n2 c2 : Nat) (S : List E2), e = .returned (.tuple #[.pointer (some ⟨w.heap.size + 2, 0, none⟩), .agg #[.slice D N cN], txv x (.slice A n c) (.slice A2 n2 c2)]) ∧ N ≤ 6 ∧ n ≤ 5 ∧ n2 ≤ 5 ∧
    (∀ W : World, w'.heap.size ≤ W.heap.size → (∀ q, w.heap.size + 3 ≤ q → q < w'.heap.size → W.heap[q]? = w'.heap[q]?) → Rs W W.heap.size D N C) ∧ OwnT w' (w.heap.size + 3) (.slice A n c) n R (.slice A2 n2 c2) n2 S ∧ CurAt w' (w.heap.size + 2) a len cap ∧ Below w.heap.size w w' ∧ w.heap.size + 3 ≤ w'.heap.size
theorem CurAt_of {w w' : World} {b : Nat} {a : Option Addr} {len cap : Nat} (h : CurAt w b a len cap) (hk : w'.heap[b]? = w.heap[b]?) : CurAt w' b a len cap := by
  obtain ⟨i, g, h0, h1, hh⟩ := h
  exact ⟨i, g, h0, h1, hk.trans hh⟩
set_option maxRecDepth 100000 in
set_option maxHeartbeats 6400000 in
theorem draw_pair (a : Option Addr) (len cap : Nat) (w : World) (hl : len ≤ 1048576) (hcode : CodeAt w w.heap.size a len) :
    Calls Tryz.prog 47 #[.slice a len cap] w (DP a len cap w) := by
  have HN := Lib.hid (fun W (hb : Below w.heap.size w W) => new_calls w.heap.size a len cap W hl (hcode.below (Nat.le_refl _) hb) hb.size)
  have HC := Lib.hid hcode
  clear hcode
  go_enter Tryz.func47, Tryz.ntmps47
  go_wp2_with fail
  have hb0 := new2 w (.cells #[.slice none 0 0] 26) (.cells #[.int .i64 0, .int .i64 0, .int .i64 0, .int .i64 0, .int .i64 0, .int .i64 0, .int .i64 0, .slice none 0 0, .slice none 0 0] 30)
  have zs : Sx ((w.alloc (.cells #[.slice none 0 0] 26)).alloc (.cells #[.int .i64 0, .int .i64 0, .int .i64 0, .int .i64 0, .int .i64 0, .int .i64 0, .int .i64 0, .slice none 0 0, .slice none 0 0] 30)) w.heap.size (.slice none 0 0) := (Sx.new w (.slice none 0 0)).of_block ((new1 (w.alloc (.cells #[.slice none 0 0] 26)) (.cells #[.int .i64 0, .int .i64 0, .int .i64 0, .int .i64 0, .int .i64 0, .int .i64 0, .int .i64 0, .slice none 0 0, .slice none 0 0] 30)).block w.heap.size (by simp))
  have zr := Bx.zero (w.alloc (.cells #[.slice none 0 0] 26))
  rw [show (w.alloc (.cells #[.slice none 0 0] 26)).heap.size = w.heap.size + 1 by simp] at zr
  have hs0 : ((w.alloc (.cells #[.slice none 0 0] 26)).alloc (.cells #[.int .i64 0, .int .i64 0, .int .i64 0, .int .i64 0, .int .i64 0, .int .i64 0, .int .i64 0, .slice none 0 0, .slice none 0 0] 30)).heap.size = w.heap.size + 2 := by simp
  generalize (w.alloc _).alloc _ = w0 at hb0 zs zr hs0 ⊢
  have HB0 := Lib.hid hb0
  clear hb0
  refine (HN.out w0 HB0.out).mono ?_
  rintro e W1 ⟨h, rfl, rfl⟩
  have hcur := cur_new w0 a len cap h
  have hb1 := HB0.out.alloc (by omega) (.cells #[.slice a len cap, .int .i64 0, .int .i64 h] 155)
  have hcd := HC.out.below (B' := w.heap.size) (Nat.le_refl _) hb1
  have zs1 := zs.of_block ((new1 w0 (.cells #[.slice a len cap, .int .i64 0, .int .i64 h] 155)).block w.heap.size (by omega))
  have zr1 := zr.alloc (.cells #[.slice a len cap, .int .i64 0, .int .i64 h] 155)
  have hs1 : w.heap.size + 3 ≤ (w0.alloc (.cells #[.slice a len cap, .int .i64 0, .int .i64 h] 155)).heap.size := by simp; omega
  have hs1' : (w0.alloc (.cells #[.slice a len cap, .int .i64 0, .int .i64 h] 155)).heap.size ≤ w.heap.size + 3 := by simp; omega
  simp only [hs0] at hcur ⊢
  generalize w0.alloc (.cells #[.slice a len cap, .int .i64 0, .int .i64 h] 155) = W1 at hcur hcd hb1 zs1 zr1 hs1 hs1' ⊢
  have HA := Lib.hid (fun W (hW : CurAt W (w.heap.size + 2) a len cap) (hO : Kp w.heap.size (w.heap.size + 2) W1 W) => Go.Proofs.YtbnkkgjkhpbgiaaGreatDoor.dany.draw_anyt (w.heap.size + 2) w.heap.size a len cap W hl hW (hcd.below (Nat.le_refl _) hO.bel) (by omega))
  have HQ := Lib.hid (fun W (hW : CurAt W (w.heap.size + 2) a len cap) (hO : Kp w.heap.size (w.heap.size + 2) W1 W) => once_calls (w.heap.size + 2) w.heap.size a len cap 8 W hl hW (hcd.below (Nat.le_refl _) hO.bel) (by omega) (by omega))
  have HOn := Lib.hid (fun W (hW : CurAt W (w.heap.size + 2) a len cap) (hO : Kp w.heap.size (w.heap.size + 2) W1 W) (D : Option Addr) (N cN : Nat) (C : List (List Ver)) (hN : N ≤ 6) (hS : ∀ V : World, Kp w.heap.size (w.heap.size + 2) W V → Rs V V.heap.size D N C) => Go.Proofs.YtbnkkgjkhpbgiaaGreatDoor.don.draw_on (w.heap.size + 2) w.heap.size a len cap W hl hW (hcd.below (Nat.le_refl _) hO.bel) (by omega) (D := D) (N := N) (cN := cN) (C := C) hN hS)
  have HX := Lib.hid (Go.Proofs.YtbnkkgjkhpbgiaaGreatDoor.draws.draw_spoiled (w.heap.size + 2) w.heap.size a len cap W1 hl hcur hcd (by omega))
  have HB1 := Lib.hid hb1
  have ZS1 := Lib.hid zs1
  have ZR1 := Lib.hid zr1
  have hbw : w.heap.size + 2 < W1.heap.size := hcur.lt
  clear hcur hcd hb1 zs zr zs1 zr1 HN HC HB0 hs0
  go_wp2_with fail
  refine HX.out.mono ?_
  rintro e W2 ⟨D, N, cN, C, rfl, hN, _, hrs, hcu2, hkp2⟩
  have HRS := Lib.hid hrs
  have hz2 := hkp2.size
  have ST3 := Lib.hid (st.one_cell W2 (.slice D N cN) 26)
  have k3 := hkp2.alloc (show w.heap.size ≤ W1.heap.size by omega) (.cells #[.slice D N cN] 26)
  have kd3 := (Kp.refl w.heap.size (w.heap.size + 2) W2).alloc (show w.heap.size ≤ W2.heap.size by omega) (.cells #[.slice D N cN] 26)
  have c3 := hcu2.alloc (.cells #[.slice D N cN] 26)
  have hl3 : W2.heap.size < (W2.alloc (.cells #[.slice D N cN] 26)).heap.size := by simp
  have st3 := ST3.out
  clear hrs hcu2 hkp2 HX
  go_wp2_with fail
  generalize hsb : W2.heap.size = sb at ST3 st3 hz2 hl3 ⊢
  generalize W2.alloc _ = W3 at ST3 st3 k3 kd3 c3 hl3 ⊢
  have K3 := Lib.hid k3
  have KD3 := Lib.hid kd3
  have C3 := Lib.hid c3
  clear k3 kd3 c3 st3
  refine (HOn.out W3 C3.out K3.out D N cN C hN (fun W hW => HRS.out W (by have := (KD3.out.trans hW).size; omega) (fun q h1 h2 => (KD3.out.trans hW).gr.block q h2 (fun e => by injection e with e; omega)))).mono ?_
  rintro e W4 ⟨x, A, n, c, R, A2, n2, c2, S, rfl, hn, hn2, hown, hcu4, hkp4⟩
  have hz4 := hkp4.size
  have bo5 : Bo (W4.alloc (.cells #[.int .i64 x.i, .int .i64 x.s, .int .i64 x.t, .int .i64 x.b, .int .i64 x.l, .int .i64 x.h, .int .i64 x.c, .slice A n c, .slice A2 n2 c2] 30)) W3.heap.size W4.heap.size x A n c R A2 n2 c2 S := ⟨Bx.new W4 x _ _, hown.keep (el2.new1 W4 _), hz4⟩
  have k5 := (K3.out.trans hkp4).alloc (show w.heap.size ≤ W1.heap.size by omega) (.cells #[.int .i64 x.i, .int .i64 x.s, .int .i64 x.t, .int .i64 x.b, .int .i64 x.l, .int .i64 x.h, .int .i64 x.c, .slice A n c, .slice A2 n2 c2] 30)
  have kd5 := (KD3.out.trans hkp4).alloc (show w.heap.size ≤ W2.heap.size by omega) (.cells #[.int .i64 x.i, .int .i64 x.s, .int .i64 x.t, .int .i64 x.b, .int .i64 x.l, .int .i64 x.h, .int .i64 x.c, .slice A n c, .slice A2 n2 c2] 30)
  have c5 := hcu4.alloc (.cells #[.int .i64 x.i, .int .i64 x.s, .int .i64 x.t, .int .i64 x.b, .int .i64 x.l, .int .i64 x.h, .int .i64 x.c, .slice A n c, .slice A2 n2 c2] 30)
  have ST5 := Lib.hid (((hkp4.alloc (show w.heap.size ≤ W3.heap.size by omega) (.cells #[.int .i64 x.i, .int .i64 x.s, .int .i64 x.t, .int .i64 x.b, .int .i64 x.l, .int .i64 x.h, .int .i64 x.c, .slice A n c, .slice A2 n2 c2] 30)).cell (p := ⟨sb, 0, none⟩) (by simp only; omega) (by simp only; omega)).trans ST3.out)
  clear hown hcu4 hkp4
  go_wp2_with fail
  generalize htb : W4.heap.size = tb at bo5 hz4 ⊢
  generalize W4.alloc _ = W5 at bo5 k5 kd5 c5 ST5 ⊢
  have K5 := Lib.hid k5
  have KD5 := Lib.hid kd5
  have C5 := Lib.hid c5
  have B5 := Lib.hid bo5
  clear bo5 k5 kd5 c5 htb ST3 K3 KD3 C3
  refine (HQ.out W5 C5.out K5.out).mono ?_
  rintro e W6 ⟨y, rfl, hc6, ho6⟩
  have K6 := Lib.hid (K5.out.only ho6 (by omega))
  have KD6 := Lib.hid (KD5.out.only ho6 (by omega))
  have C6 := Lib.hid hc6
  have B6 := Lib.hid (Bo.only B5.out (by omega) ho6)
  have ST6 := Lib.hid ((World.cell?_of_block (w := W5) (a := ⟨sb, 0, none⟩) (ho6.block sb (by omega))).trans ST5.out)
  clear hc6 ho6 K5 KD5 C5 B5 ST5
  cases y
  · go_wp2_with fail
    have ZS6 := ZS1.out.of_block (K6.out.gr.block w.heap.size (by omega) (fun e => by injection e with e; omega))
    have ZR6 := ZR1.out.of_block (K6.out.gr.block (w.heap.size + 1) (by omega) (fun e => by injection e with e; omega))
    obtain ⟨t0, t1, t2, t3, t4, t5, t6, t7, t8⟩ := B6.out.bx.tb
    have st := ST6.out
    have s0 := ZS6.cell
    have g0 := ZS6.fz
    obtain ⟨z0, z1, z2, z3, z4, z5, z6, z7, z8⟩ := ZR6.tb
    have y0 := ZR6.fz 0
    have y1 := ZR6.fz 1
    have y2 := ZR6.fz 2
    have y3 := ZR6.fz 3
    have y4 := ZR6.fz 4
    have y5 := ZR6.fz 5
    have y6 := ZR6.fz 6
    have y7 := ZR6.fz 7
    have y8 := ZR6.fz 8
    have hbt := B6.out.lt
    try go_wp2_with fail
    go_region_held3 (fun w' => w'.cell? ⟨sb, 0, none⟩ = some (.slice D N cN) ∧ w'.cell? ⟨tb, 0, none⟩ = some (.int .i64 x.i) ∧ w'.cell? ⟨tb, 1, none⟩ = some (.int .i64 x.s) ∧ w'.cell? ⟨tb, 2, none⟩ = some (.int .i64 x.t) ∧ w'.cell? ⟨tb, 3, none⟩ = some (.int .i64 x.b) ∧ w'.cell? ⟨tb, 4, none⟩ = some (.int .i64 x.l) ∧ w'.cell? ⟨tb, 5, none⟩ = some (.int .i64 x.h) ∧ w'.cell? ⟨tb, 6, none⟩ = some (.int .i64 x.c) ∧ w'.cell? ⟨tb, 7, none⟩ = some (.slice A n c) ∧ w'.cell? ⟨tb, 8, none⟩ = some (.slice A2 n2 c2)) (first | ((repeat' apply And.intro) <;> first | with_reducible exact (put9_celld (by simp only; omega)).trans (by assumption) | with_reducible exact (cell1d (by simp only; omega)).trans (by assumption) | with_reducible exact (put9_cell (by simp only; omega)).trans (by assumption) | with_reducible exact (cell1 (by simp only; omega)).trans (by assumption) | with_reducible exact (put9_celld (by simp only; omega)).trans ((cell1 (by simp only; omega)).trans (by assumption)) | with_reducible exact (cell1d (by simp only; omega)).trans ((put9_cell (by simp only; omega)).trans (by assumption)) | with_reducible exact (put9_cell (by simp only; omega)).trans ((cell1 (by simp only; omega)).trans (by assumption)) | with_reducible exact (cell1 (by simp only; omega)).trans ((put9_cell (by simp only; omega)).trans (by assumption))) | go_keep) (fail)
    all_goals
      have hbel := HB1.out.trans K6.out.bel
      have hF := fun W' hW => fin_19 (W' := W') (x := x) (A := A) (n := n) (c := c) (R := R) (A2 := A2) (n2 := n2) (c2 := c2) (S := S) (D := D) (N := N) (cN := cN) ZS6 ZR6 (B6.out.own.more (show w.heap.size + 3 ≤ _ by omega)) hbel (Nat.le_refl _) (Nat.le_succ _) (by omega) (by omega) (by omega) hW
      have hG := fun W' hW => fin_91 (W' := W') (x := x) (A := A) (n := n) (c := c) (R := R) (A2 := A2) (n2 := n2) (c2 := c2) (S := S) (D := D) (N := N) (cN := cN) ZS6 ZR6 (B6.out.own.more (show w.heap.size + 3 ≤ _ by omega)) hbel (Nat.le_refl _) (Nat.le_succ _) (by omega) (by omega) (by omega) hW
      clear t0 t1 t2 t3 t4 t5 t6 t7 t8 st s0 g0 z0 z1 z2 z3 z4 z5 z6 z7 z8 y0 y1 y2 y3 y4 y5 y6 y7 y8 hbel
      try go_wp2_with fail
      generalize hW : World.setCell _ _ _ = W8x
      obtain ⟨q9, ⟨q0, q1, q2, q3, q4, q5, q6, q7, q8⟩, _⟩ := (by first | exact hF W8x hW | exact hG W8x hW : Fin6 w W6 W8x w.heap.size (w.heap.size + 1) x A n c R A2 n2 c2 S D N cN (w.heap.size + 3))
      obtain ⟨e9, ⟨e0, e1, e2, e3, e4, e5, e6, e7, e8⟩, hO, hB9, hz9, hk9⟩ := (by first | exact (hF W8x hW).drew | exact (hG W8x hW).drew : Fin6 w W6 W8x.drew w.heap.size (w.heap.size + 1) x A n c R A2 n2 c2 S D N cN (w.heap.size + 3))
      have hcur9 := CurAt_of C6.out (hk9 (w.heap.size + 2) (by omega) (by omega))
      have hrs9 : ∀ W : World, W8x.drew.heap.size ≤ W.heap.size → (∀ q, w.heap.size + 3 ≤ q → q < W8x.drew.heap.size → W.heap[q]? = W8x.drew.heap[q]?) → Rs W W.heap.size D N C := fun W hs hq => HRS.out W (by have := KD6.out.size; omega) (fun q h1 h2 => (hq q (by omega) (by have := KD6.out.size; omega)).trans ((hk9 q (by omega) (by omega)).trans (KD6.out.gr.block q h2 (fun e => by injection e with e; omega))))
      exact bodyPost_ret (v := .tuple #[.pointer (some ⟨w.heap.size + 2, 0, none⟩), .agg #[.slice D N cN], txv x (.slice A n c) (.slice A2 n2 c2)]) (by simp [results, Tryz.results47, go_sem, e0, e1, e2, e3, e4, e5, e6, e7, e8, e9, q0, q1, q2, q3, q4, q5, q6, q7, q8, q9]) rfl ⟨D, N, cN, C, x, A, n, c, R, A2, n2, c2, S, rfl, hN, by omega, by omega, hrs9, hO, hcur9, hB9, by have := K6.out.size; omega⟩
  · go_wp2_with fail
    refine (HA.out W6 C6.out K6.out).mono ?_
    rintro e W7 ⟨x', A', n', c', R', A2', n2', c2', S', rfl, hn', hn2', hown, hcu7, hkp7⟩
    have hz7 := hkp7.size
    have bx7 := Bo.kp B6.out (by omega) hkp7
    have hbt6 := B6.out.lt
    have o8 := off_put W7 tb x' (.slice A' n' c') (.slice A2' n2' c2')
    have bo8 : Bo (World.setCell (World.setCell (World.setCell (World.setCell (World.setCell (World.setCell (World.setCell (World.setCell (World.setCell W7 ⟨tb, 0, none⟩ (.int .i64 x'.i)) ⟨tb, 1, none⟩ (.int .i64 x'.s)) ⟨tb, 2, none⟩ (.int .i64 x'.t)) ⟨tb, 3, none⟩ (.int .i64 x'.b)) ⟨tb, 4, none⟩ (.int .i64 x'.l)) ⟨tb, 5, none⟩ (.int .i64 x'.h)) ⟨tb, 6, none⟩ (.int .i64 x'.c)) ⟨tb, 7, none⟩ (.slice A' n' c')) ⟨tb, 8, none⟩ (.slice A2' n2' c2')) (w.heap.size + 3) tb x' A' n' c' R' A2' n2' c2' S' := ⟨bx7.bx.put x' _ _, (hown.off o8 hbt6).more (by have := K6.out.size; omega), by omega⟩
    have k8 := kp_off (K6.out.trans hkp7) (by omega) (show W1.heap.size ≤ tb by omega) o8
    have kd8 := kp_off (KD6.out.trans hkp7) (by omega) (show W2.heap.size ≤ tb by omega) o8
    have c8 := cur_off hcu7 (by omega) o8
    have ST8 := Lib.hid ((World.cell?_of_block (w := W7) (a := ⟨sb, 0, none⟩) (o8.block sb (by omega))).trans ((hkp7.cell (p := ⟨sb, 0, none⟩) (by simp only; omega) (by simp only; omega)).trans ST6.out))
    obtain ⟨t0, t1, t2, t3, t4, t5, t6, t7, t8⟩ := bx7.bx.tb
    have y0 := bx7.bx.fz 0
    have y1 := bx7.bx.fz 1
    have y2 := bx7.bx.fz 2
    have y3 := bx7.bx.fz 3
    have y4 := bx7.bx.fz 4
    have y5 := bx7.bx.fz 5
    have y6 := bx7.bx.fz 6
    have y7 := bx7.bx.fz 7
    have y8 := bx7.bx.fz 8
    clear o8 hown hcu7 hkp7 bx7
    go_wp2_with fail
    clear t0 t1 t2 t3 t4 t5 t6 t7 t8 y0 y1 y2 y3 y4 y5 y6 y7 y8
    generalize (World.setCell (World.setCell (World.setCell (World.setCell (World.setCell (World.setCell (World.setCell (World.setCell (World.setCell W7 ⟨tb, 0, none⟩ (.int .i64 x'.i)) ⟨tb, 1, none⟩ (.int .i64 x'.s)) ⟨tb, 2, none⟩ (.int .i64 x'.t)) ⟨tb, 3, none⟩ (.int .i64 x'.b)) ⟨tb, 4, none⟩ (.int .i64 x'.l)) ⟨tb, 5, none⟩ (.int .i64 x'.h)) ⟨tb, 6, none⟩ (.int .i64 x'.c)) ⟨tb, 7, none⟩ (.slice A' n' c')) ⟨tb, 8, none⟩ (.slice A2' n2' c2')) = W8 at bo8 k8 kd8 c8 ST8 ⊢
    have K8 := Lib.hid k8
    have KD8 := Lib.hid kd8
    have C8 := Lib.hid c8
    have B8 := Lib.hid bo8
    clear bo8 k8 kd8 c8 K6 KD6 C6 B6 ST6 hn hn2
    have ZS8 := ZS1.out.of_block (K8.out.gr.block w.heap.size (by omega) (fun e => by injection e with e; omega))
    have ZR8 := ZR1.out.of_block (K8.out.gr.block (w.heap.size + 1) (by omega) (fun e => by injection e with e; omega))
    obtain ⟨t0, t1, t2, t3, t4, t5, t6, t7, t8⟩ := B8.out.bx.tb
    have st := ST8.out
    have s0 := ZS8.cell
    have g0 := ZS8.fz
    obtain ⟨z0, z1, z2, z3, z4, z5, z6, z7, z8⟩ := ZR8.tb
    have y0 := ZR8.fz 0
    have y1 := ZR8.fz 1
    have y2 := ZR8.fz 2
    have y3 := ZR8.fz 3
    have y4 := ZR8.fz 4
    have y5 := ZR8.fz 5
    have y6 := ZR8.fz 6
    have y7 := ZR8.fz 7
    have y8 := ZR8.fz 8
    have hbt := B8.out.lt
    try go_wp2_with fail
    go_region_held3 (fun w' => w'.cell? ⟨sb, 0, none⟩ = some (.slice D N cN) ∧ w'.cell? ⟨tb, 0, none⟩ = some (.int .i64 x'.i) ∧ w'.cell? ⟨tb, 1, none⟩ = some (.int .i64 x'.s) ∧ w'.cell? ⟨tb, 2, none⟩ = some (.int .i64 x'.t) ∧ w'.cell? ⟨tb, 3, none⟩ = some (.int .i64 x'.b) ∧ w'.cell? ⟨tb, 4, none⟩ = some (.int .i64 x'.l) ∧ w'.cell? ⟨tb, 5, none⟩ = some (.int .i64 x'.h) ∧ w'.cell? ⟨tb, 6, none⟩ = some (.int .i64 x'.c) ∧ w'.cell? ⟨tb, 7, none⟩ = some (.slice A' n' c') ∧ w'.cell? ⟨tb, 8, none⟩ = some (.slice A2' n2' c2')) (first | ((repeat' apply And.intro) <;> first | with_reducible exact (put9_celld (by simp only; omega)).trans (by assumption) | with_reducible exact (cell1d (by simp only; omega)).trans (by assumption) | with_reducible exact (put9_cell (by simp only; omega)).trans (by assumption) | with_reducible exact (cell1 (by simp only; omega)).trans (by assumption) | with_reducible exact (put9_celld (by simp only; omega)).trans ((cell1 (by simp only; omega)).trans (by assumption)) | with_reducible exact (cell1d (by simp only; omega)).trans ((put9_cell (by simp only; omega)).trans (by assumption)) | with_reducible exact (put9_cell (by simp only; omega)).trans ((cell1 (by simp only; omega)).trans (by assumption)) | with_reducible exact (cell1 (by simp only; omega)).trans ((put9_cell (by simp only; omega)).trans (by assumption))) | go_keep) (fail)
    all_goals
      have hbel := HB1.out.trans K8.out.bel
      have hF := fun W' hW => fin_19 (W' := W') (x := x') (A := A') (n := n') (c := c') (R := R') (A2 := A2') (n2 := n2') (c2 := c2') (S := S') (D := D) (N := N) (cN := cN) ZS8 ZR8 (B8.out.own.more (show w.heap.size + 3 ≤ _ by omega)) hbel (Nat.le_refl _) (Nat.le_succ _) (by omega) (by omega) (by omega) hW
      have hG := fun W' hW => fin_91 (W' := W') (x := x') (A := A') (n := n') (c := c') (R := R') (A2 := A2') (n2 := n2') (c2 := c2') (S := S') (D := D) (N := N) (cN := cN) ZS8 ZR8 (B8.out.own.more (show w.heap.size + 3 ≤ _ by omega)) hbel (Nat.le_refl _) (Nat.le_succ _) (by omega) (by omega) (by omega) hW
      clear t0 t1 t2 t3 t4 t5 t6 t7 t8 st s0 g0 z0 z1 z2 z3 z4 z5 z6 z7 z8 y0 y1 y2 y3 y4 y5 y6 y7 y8 hbel
      try go_wp2_with fail
      generalize hW : World.setCell _ _ _ = W8x
      obtain ⟨q9, ⟨q0, q1, q2, q3, q4, q5, q6, q7, q8⟩, _⟩ := (by first | exact hF W8x hW | exact hG W8x hW : Fin6 w W8 W8x w.heap.size (w.heap.size + 1) x' A' n' c' R' A2' n2' c2' S' D N cN (w.heap.size + 3))
      obtain ⟨e9, ⟨e0, e1, e2, e3, e4, e5, e6, e7, e8⟩, hO, hB9, hz9, hk9⟩ := (by first | exact (hF W8x hW).drew | exact (hG W8x hW).drew : Fin6 w W8 W8x.drew w.heap.size (w.heap.size + 1) x' A' n' c' R' A2' n2' c2' S' D N cN (w.heap.size + 3))
      have hcur9 := CurAt_of C8.out (hk9 (w.heap.size + 2) (by omega) (by omega))
      have hrs9 : ∀ W : World, W8x.drew.heap.size ≤ W.heap.size → (∀ q, w.heap.size + 3 ≤ q → q < W8x.drew.heap.size → W.heap[q]? = W8x.drew.heap[q]?) → Rs W W.heap.size D N C := fun W hs hq => HRS.out W (by have := KD8.out.size; omega) (fun q h1 h2 => (hq q (by omega) (by have := KD8.out.size; omega)).trans ((hk9 q (by omega) (by omega)).trans (KD8.out.gr.block q h2 (fun e => by injection e with e; omega))))
      exact bodyPost_ret (v := .tuple #[.pointer (some ⟨w.heap.size + 2, 0, none⟩), .agg #[.slice D N cN], txv x' (.slice A' n' c') (.slice A2' n2' c2')]) (by simp [results, Tryz.results47, go_sem, e0, e1, e2, e3, e4, e5, e6, e7, e8, e9, q0, q1, q2, q3, q4, q5, q6, q7, q8, q9]) rfl ⟨D, N, cN, C, x', A', n', c', R', A2', n2', c2', S', rfl, hN, by omega, by omega, hrs9, hO, hcur9, hB9, by have := K8.out.size; omega⟩
end Go.Proofs.YtbnkkgjkhpbgiaaGreatDoor.dpr
/- The model's DrawRefreshHigh: a drawn store and a drawn transaction. -/
namespace Go.Proofs.YtbnkkgjkhpbgiaaGreatDoor.drh
open Go.ChangeShapes Go.WideShapes Go.ChangeAt Go.RowKit
open Go.Proofs.YtbnkkgjkhpbgiaaGreatDoor.el2 Go.Proofs.YtbnkkgjkhpbgiaaGreatDoor.tx Go.Proofs.YtbnkkgjkhpbgiaaGreatDoor.ap Go.Proofs.YtbnkkgjkhpbgiaaGreatDoor.bx Go.Proofs.YtbnkkgjkhpbgiaaGreatDoor.ad Go.Proofs.YtbnkkgjkhpbgiaaGreatDoor.sf Go.Proofs.YtbnkkgjkhpbgiaaGreatDoor.dr Go.Proofs.YtbnkkgjkhpbgiaaGreatDoor.drt Go.Proofs.YtbnkkgjkhpbgiaaGreatDoor.dpr
open Go.Proofs.YtbnkkgjkhpbgiaaGreatDoor.cur (CurAt CodeAt Kp Only below_calls pick_calls new_calls cur_new)
open Go.Proofs.YtbnkkgjkhpbgiaaGreatDoor.vers (new2)
open Go.Proofs.YtbnkkgjkhpbgiaaGreatDoor.sl (Ver)
open Go.Proofs.YtbnkkgjkhpbgiaaGreatDoor.st (Rs)
set_option linter.unusedVariables false
set_option linter.unusedSimpArgs false
theorem code_more {w : World} {B B' : Nat} {a : Option Addr} {len : Nat} (h : CodeAt w B a len) (hB : B ≤ B') : CodeAt w B' a len := by
  intro j hj
  obtain ⟨cb, off, z, h1, h2, h3, h4, h5⟩ := h j hj
  exact ⟨cb, off, z, h1, by omega, h3, h4, h5⟩
/-- a drawn store and a drawn transaction -/
def DRH (w : World) (e : Ending) (w' : World) : Prop :=
  ∃ (D : Option Addr) (N cN : Nat) (C : List (List Ver)) (x : Hd) (A : Option Addr) (n c : Nat) (R : List E2) (A2 : Option Addr) (n2 c2 : Nat) (S : List E2), e = .returned (.tuple #[.agg #[.slice D N cN], txv x (.slice A n c) (.slice A2 n2 c2)]) ∧ N ≤ 6 ∧ n ≤ 5 ∧ n2 ≤ 5 ∧ Rs w' w'.heap.size D N C ∧ OwnT w' w.heap.size (.slice A n c) n R (.slice A2 n2 c2) n2 S ∧ Below w.heap.size w w'
end Go.Proofs.YtbnkkgjkhpbgiaaGreatDoor.drh
/- The model's l8Three: a drawn store, a drawn transaction, a stamp. -/
namespace Go.Proofs.YtbnkkgjkhpbgiaaGreatDoor.d83
open Go.ChangeShapes Go.WideShapes Go.ChangeAt Go.RowKit
open Go.Proofs.YtbnkkgjkhpbgiaaGreatDoor.el2 Go.Proofs.YtbnkkgjkhpbgiaaGreatDoor.tx Go.Proofs.YtbnkkgjkhpbgiaaGreatDoor.ap Go.Proofs.YtbnkkgjkhpbgiaaGreatDoor.bx Go.Proofs.YtbnkkgjkhpbgiaaGreatDoor.ad Go.Proofs.YtbnkkgjkhpbgiaaGreatDoor.sf Go.Proofs.YtbnkkgjkhpbgiaaGreatDoor.dr Go.Proofs.YtbnkkgjkhpbgiaaGreatDoor.drt Go.Proofs.YtbnkkgjkhpbgiaaGreatDoor.dpr Go.Proofs.YtbnkkgjkhpbgiaaGreatDoor.drh
open Go.Proofs.YtbnkkgjkhpbgiaaGreatDoor.cur (CurAt CodeAt Kp Only below_calls pick_calls new_calls cur_new)
open Go.Proofs.YtbnkkgjkhpbgiaaGreatDoor.vers (new2)
open Go.Proofs.YtbnkkgjkhpbgiaaGreatDoor.sl (Ver)
open Go.Proofs.YtbnkkgjkhpbgiaaGreatDoor.st (Rs)
set_option linter.unusedVariables false
set_option linter.unusedSimpArgs false
theorem list_w {W : World} {g : Nat} {t : TypeId} (h : W.heap[g]? = some (.cells #[.int .i64 1, .int .i64 1, .int .i64 1, .int .i64 2, .int .i64 0, .int .i64 999] t (0, 0))) : ∀ j, j < 6 → ∃ v : Int, W.cell? ⟨g, j, none⟩ = some (.int .i64 v) ∧ 0 ≤ v ∧ v ≤ 999 := by
  intro j hj
  have : j = 0 ∨ j = 1 ∨ j = 2 ∨ j = 3 ∨ j = 4 ∨ j = 5 := by omega
  rcases this with rfl | rfl | rfl | rfl | rfl | rfl
  · exact ⟨1, by simp [World.cell?, h], by omega, by omega⟩
  · exact ⟨1, by simp [World.cell?, h], by omega, by omega⟩
  · exact ⟨1, by simp [World.cell?, h], by omega, by omega⟩
  · exact ⟨2, by simp [World.cell?, h], by omega, by omega⟩
  · exact ⟨0, by simp [World.cell?, h], by omega, by omega⟩
  · exact ⟨999, by simp [World.cell?, h], by omega, by omega⟩
/-- what the region carries: the two boxes of the values, the two of the results, the lists, the cursor -/
structure ZZ (w W3 W : World) (b sb : Nat) (a : Option Addr) (len cap : Nat) (x : Hd) (A : Option Addr) (n c : Nat) (R : List E2) (A2 : Option Addr) (n2 c2 : Nat) (S : List E2) (D : Option Addr) (N cN : Nat) : Prop where
  st : W.cell? ⟨sb, 0, none⟩ = some (.slice D N cN)
  bxx : Bx W (sb + 1) x (.slice A n c) (.slice A2 n2 c2)
  zs : Sx W w.heap.size (.slice none 0 0)
  zr : Bx W (w.heap.size + 1) ⟨0, 0, 0, 0, 0, 0, 0⟩ (.slice none 0 0) (.slice none 0 0)
  own : OwnT W (w.heap.size + 5) (.slice A n c) n R (.slice A2 n2 c2) n2 S
  bel : Below w.heap.size w W
  cur : CurAt W b a len cap
  sz : W3.heap.size ≤ W.heap.size
  blk : ∀ q, q < W3.heap.size → q ≠ b → W.heap[q]? = W3.heap[q]?
section
variable {w W3 W W' : World} {b sb len cap n c n2 c2 N cN : Nat} {a A A2 D : Option Addr} {x : Hd} {R S : List E2}
theorem ZZ.only (h : ZZ w W3 W b sb a len cap x A n c R A2 n2 c2 S D N cN) (hb : w.heap.size + 2 ≤ b) (hb2 : b < w.heap.size + 5) (hb3 : b < sb) (ho : Only b W W') (hc : CurAt W' b a len cap) : ZZ w W3 W' b sb a len cap x A n c R A2 n2 c2 S D N cN where
  st := (World.cell?_of_block (w := W) (a := ⟨sb, 0, none⟩) (ho.block sb (by omega))).trans h.st
  bxx := h.bxx.of_block (ho.block (sb + 1) (by omega))
  zs := h.zs.of_block (ho.block _ (by omega))
  zr := h.zr.of_block (ho.block _ (by omega))
  own := h.own.off ⟨ho.os, ho.tape, ho.output, ho.size, ho.block⟩ hb2
  bel := h.bel.trans (ho.below (by omega))
  cur := hc
  sz := by rw [ho.size]; exact h.sz
  blk := fun q hq hne => (ho.block q hne).trans (h.blk q hq hne)
theorem ZZ.below (h : ZZ w W3 W b sb a len cap x A n c R A2 n2 c2 S D N cN) (hs : sb < W.heap.size) (hb : Below W.heap.size W W') : ZZ w W3 W' b sb a len cap x A n c R A2 n2 c2 S D N cN where
  st := (hb.cell (p := ⟨sb, 0, none⟩) hs).trans h.st
  bxx := h.bxx.keep hb h.bxx.lt
  zs := h.zs.of_block (hb.block _ h.zs.lt)
  zr := h.zr.keep hb h.zr.lt
  own := h.own.keep hb
  bel := h.bel.trans (hb.mono h.bel.size)
  cur := h.cur.grown (row := none) ⟨hb.os, hb.tape, hb.output, hb.size, fun k hk _ => hb.block k hk⟩ (by simp)
  sz := Nat.le_trans h.sz hb.size
  blk := fun q hq hne => (hb.block q (Nat.lt_of_lt_of_le hq h.sz)).trans (h.blk q hq hne)
theorem ZZ.drew (h : ZZ w W3 W b sb a len cap x A n c R A2 n2 c2 S D N cN) : ZZ w W3 W.drew b sb a len cap x A n c R A2 n2 c2 S D N cN := ⟨h.st, h.bxx, h.zs, h.zr, h.own, h.bel.drew, h.cur, h.sz, h.blk⟩
theorem ZZ.cells (h : ZZ w W3 W b sb a len cap x A n c R A2 n2 c2 S D N cN) : W.cell? ⟨sb, 0, none⟩ = some (.slice D N cN) ∧ W.cell? ⟨sb + 1, 0, none⟩ = some (.int .i64 x.i) ∧ W.cell? ⟨sb + 1, 1, none⟩ = some (.int .i64 x.s) ∧ W.cell? ⟨sb + 1, 2, none⟩ = some (.int .i64 x.t) ∧ W.cell? ⟨sb + 1, 3, none⟩ = some (.int .i64 x.b) ∧ W.cell? ⟨sb + 1, 4, none⟩ = some (.int .i64 x.l) ∧ W.cell? ⟨sb + 1, 5, none⟩ = some (.int .i64 x.h) ∧ W.cell? ⟨sb + 1, 6, none⟩ = some (.int .i64 x.c) ∧ W.cell? ⟨sb + 1, 7, none⟩ = some (.slice A n c) ∧ W.cell? ⟨sb + 1, 8, none⟩ = some (.slice A2 n2 c2) := ⟨h.st, h.bxx.tb⟩
end
/-- a drawn store, a drawn transaction, a stamp -/
def D3 (w : World) (e : Ending) (w' : World) : Prop :=
  ∃ (D : Option Addr) (N cN : Nat) (C : List (List Ver)) (x : Hd) (A : Option Addr) (n c : Nat) (R : List E2) (A2 : Option Addr) (n2 c2 : Nat) (S : List E2) (k : Int), e = .returned (.tuple #[.agg #[.slice D N cN], txv x (.slice A n c) (.slice A2 n2 c2), .int .i64 k]) ∧ N ≤ 6 ∧ n ≤ 5 ∧ n2 ≤ 5 ∧
    (∀ W : World, w'.heap.size ≤ W.heap.size → (∀ q, w.heap.size + 3 ≤ q → q < w'.heap.size → W.heap[q]? = w'.heap[q]?) → Rs W W.heap.size D N C) ∧ OwnT w' (w.heap.size + 3) (.slice A n c) n R (.slice A2 n2 c2) n2 S ∧ Below w.heap.size w w' ∧ w.heap.size + 3 ≤ w'.heap.size
set_option maxRecDepth 100000 in
set_option maxHeartbeats 6400000 in
theorem draw_three (a : Option Addr) (len cap : Nat) (w : World) (hl : len ≤ 1048576) (hcode : CodeAt w w.heap.size a len) :
    Calls Tryz.prog 23 #[.slice a len cap] w (D3 w) := by
  have hb0 := new2 w (.cells #[.slice none 0 0] 26) (.cells #[.int .i64 0, .int .i64 0, .int .i64 0, .int .i64 0, .int .i64 0, .int .i64 0, .int .i64 0, .slice none 0 0, .slice none 0 0] 30)
  have HP := Lib.hid (draw_pair a len cap ((w.alloc (.cells #[.slice none 0 0] 26)).alloc (.cells #[.int .i64 0, .int .i64 0, .int .i64 0, .int .i64 0, .int .i64 0, .int .i64 0, .int .i64 0, .slice none 0 0, .slice none 0 0] 30)) hl (code_more (hcode.below (Nat.le_refl _) hb0) hb0.size))
  have HC := Lib.hid hcode
  clear hcode
  go_enter Tryz.func23, Tryz.ntmps23
  go_wp2_with fail
  have zs : Sx ((w.alloc (.cells #[.slice none 0 0] 26)).alloc (.cells #[.int .i64 0, .int .i64 0, .int .i64 0, .int .i64 0, .int .i64 0, .int .i64 0, .int .i64 0, .slice none 0 0, .slice none 0 0] 30)) w.heap.size (.slice none 0 0) := (Sx.new w (.slice none 0 0)).of_block ((new1 (w.alloc (.cells #[.slice none 0 0] 26)) (.cells #[.int .i64 0, .int .i64 0, .int .i64 0, .int .i64 0, .int .i64 0, .int .i64 0, .int .i64 0, .slice none 0 0, .slice none 0 0] 30)).block w.heap.size (by simp))
  have zr := Bx.zero (w.alloc (.cells #[.slice none 0 0] 26))
  rw [show (w.alloc (.cells #[.slice none 0 0] 26)).heap.size = w.heap.size + 1 by simp] at zr
  have hs0 : ((w.alloc (.cells #[.slice none 0 0] 26)).alloc (.cells #[.int .i64 0, .int .i64 0, .int .i64 0, .int .i64 0, .int .i64 0, .int .i64 0, .int .i64 0, .slice none 0 0, .slice none 0 0] 30)).heap.size = w.heap.size + 2 := by simp
  generalize (w.alloc _).alloc _ = w0 at hb0 zs zr hs0 HP ⊢
  have HB0 := Lib.hid hb0
  have hp := HP.out
  unfold DP at hp
  rw [hs0] at hp
  have HP := Lib.hid hp
  clear hb0 hp
  refine HP.out.mono ?_
  rintro e W1 ⟨D, N, cN, C, x, A, n, c, R, A2, n2, c2, S, rfl, hN, hn, hn2, hrs, hown, hcu, hb1, hs1⟩
  have HRS := Lib.hid hrs
  have hs0' : w.heap.size + 2 ≤ w0.heap.size := by omega
  rw [← hs0] at hb1
  have hb01 := HB0.out.trans (hb1.mono HB0.out.size)
  have zs1 := zs.of_block (hb1.block w.heap.size (by omega))
  have zr1 := zr.of_block (hb1.block (w.heap.size + 1) (by omega))
  have hnn := new2 W1 (.cells #[.slice D N cN] 26) (.cells #[.int .i64 x.i, .int .i64 x.s, .int .i64 x.t, .int .i64 x.b, .int .i64 x.l, .int .i64 x.h, .int .i64 x.c, .slice A n c, .slice A2 n2 c2] 30)
  have st3 := st.up (.cells #[.int .i64 x.i, .int .i64 x.s, .int .i64 x.t, .int .i64 x.b, .int .i64 x.l, .int .i64 x.h, .int .i64 x.c, .slice A n c, .slice A2 n2 c2] 30) (st.one_cell W1 (.slice D N cN) 26) (by simp)
  have bx3 := Bx.new (W1.alloc (.cells #[.slice D N cN] 26)) x (.slice A n c) (.slice A2 n2 c2)
  rw [show (W1.alloc (.cells #[.slice D N cN] 26)).heap.size = W1.heap.size + 1 by simp] at bx3
  have zz : ZZ w ((W1.alloc (.cells #[.slice D N cN] 26)).alloc (.cells #[.int .i64 x.i, .int .i64 x.s, .int .i64 x.t, .int .i64 x.b, .int .i64 x.l, .int .i64 x.h, .int .i64 x.c, .slice A n c, .slice A2 n2 c2] 30)) ((W1.alloc (.cells #[.slice D N cN] 26)).alloc (.cells #[.int .i64 x.i, .int .i64 x.s, .int .i64 x.t, .int .i64 x.b, .int .i64 x.l, .int .i64 x.h, .int .i64 x.c, .slice A n c, .slice A2 n2 c2] 30)) (w.heap.size + 4) W1.heap.size a len cap x A n c R A2 n2 c2 S D N cN := ⟨st3, bx3, zs1.of_block (hnn.block w.heap.size (by omega)), zr1.of_block (hnn.block (w.heap.size + 1) (by omega)), (hown.more (by omega)).keep hnn, hb01.trans (hnn.mono (by have := hb01.size; omega)), (show CurAt W1 (w.heap.size + 4) a len cap from hcu).grown (row := none) ⟨hnn.os, hnn.tape, hnn.output, hnn.size, fun k hk _ => hnn.block k hk⟩ (by simp), Nat.le_refl _, fun _ _ _ => rfl⟩
  have hl3 : W1.heap.size + 2 ≤ ((W1.alloc (.cells #[.slice D N cN] 26)).alloc (.cells #[.int .i64 x.i, .int .i64 x.s, .int .i64 x.t, .int .i64 x.b, .int .i64 x.l, .int .i64 x.h, .int .i64 x.c, .slice A n c, .slice A2 n2 c2] 30)).heap.size := by simp
  have hz3 : w.heap.size + 5 ≤ W1.heap.size := by omega
  have hq3 : ∀ q, q < W1.heap.size → ((W1.alloc (.cells #[.slice D N cN] 26)).alloc (.cells #[.int .i64 x.i, .int .i64 x.s, .int .i64 x.t, .int .i64 x.b, .int .i64 x.l, .int .i64 x.h, .int .i64 x.c, .slice A n c, .slice A2 n2 c2] 30)).heap[q]? = W1.heap[q]? := fun q hq => hnn.block q (by omega)
  clear hrs hown hcu zs1 zr1 zs zr hb01 hb1 hs0 hs0' HP HB0 st3 bx3 hnn hs1
  go_wp2_with fail
  generalize hsb : W1.heap.size = sb at zz hl3 hz3 hq3 ⊢
  generalize (W1.alloc _).alloc _ = W3 at zz hl3 hq3 ⊢
  have Z3 := Lib.hid zz
  have HQ3 := Lib.hid hq3
  obtain ⟨m, hm⟩ : ∃ m, Go.Proofs.YtbnkkgjkhpbgiaaGreatDoor.last.lstS C = m := ⟨_, rfl⟩
  have hmr := Go.Proofs.YtbnkkgjkhpbgiaaGreatDoor.em.lst_range C
  rw [hm] at hmr
  obtain ⟨hm0, hm1⟩ := hmr
  have HM := Lib.hid hm
  have HLS := Lib.hid (fun W (hs : W3.heap.size ≤ W.heap.size) (hq : ∀ q, q < W3.heap.size → W.heap[q]? = W3.heap[q]?) => Go.Proofs.YtbnkkgjkhpbgiaaGreatDoor.last.spec_last (c := cN) (by omega) (HRS.out W (by omega) (fun q h1 h2 => (hq q (by omega)).trans (HQ3.out q (by omega)))) (Nat.le_refl _))
  have HPk := Lib.hid (fun g W (z : ZZ w W3 W (w.heap.size + 4) sb a len cap x A n c R A2 n2 c2 S D N cN) (hg : g ≠ w.heap.size + 4) (hlist : ∀ j, j < 6 → ∃ v : Int, W.cell? ⟨g, j, none⟩ = some (.int .i64 v) ∧ 0 ≤ v ∧ v ≤ 999) => pick_calls (w.heap.size + 4) w.heap.size g a len cap 6 0 999 W hl z.cur (HC.out.below (Nat.le_refl _) z.bel) (by omega) (by omega) (by omega) hg hlist)
  have hc3 : W3.cell? ⟨sb, 0, none⟩ = some (.slice D N cN) ∧ W3.cell? ⟨sb + 1, 0, none⟩ = some (.int .i64 x.i) ∧ W3.cell? ⟨sb + 1, 1, none⟩ = some (.int .i64 x.s) ∧ W3.cell? ⟨sb + 1, 2, none⟩ = some (.int .i64 x.t) ∧ W3.cell? ⟨sb + 1, 3, none⟩ = some (.int .i64 x.b) ∧ W3.cell? ⟨sb + 1, 4, none⟩ = some (.int .i64 x.l) ∧ W3.cell? ⟨sb + 1, 5, none⟩ = some (.int .i64 x.h) ∧ W3.cell? ⟨sb + 1, 6, none⟩ = some (.int .i64 x.c) ∧ W3.cell? ⟨sb + 1, 7, none⟩ = some (.slice A n c) ∧ W3.cell? ⟨sb + 1, 8, none⟩ = some (.slice A2 n2 c2) := zz.cells
  have hc3d : W3.drew.cell? ⟨sb, 0, none⟩ = some (.slice D N cN) ∧ W3.drew.cell? ⟨sb + 1, 0, none⟩ = some (.int .i64 x.i) ∧ W3.drew.cell? ⟨sb + 1, 1, none⟩ = some (.int .i64 x.s) ∧ W3.drew.cell? ⟨sb + 1, 2, none⟩ = some (.int .i64 x.t) ∧ W3.drew.cell? ⟨sb + 1, 3, none⟩ = some (.int .i64 x.b) ∧ W3.drew.cell? ⟨sb + 1, 4, none⟩ = some (.int .i64 x.l) ∧ W3.drew.cell? ⟨sb + 1, 5, none⟩ = some (.int .i64 x.h) ∧ W3.drew.cell? ⟨sb + 1, 6, none⟩ = some (.int .i64 x.c) ∧ W3.drew.cell? ⟨sb + 1, 7, none⟩ = some (.slice A n c) ∧ W3.drew.cell? ⟨sb + 1, 8, none⟩ = some (.slice A2 n2 c2) := zz.drew.cells
  have hca : (W3.alloc (.cells #[.int .i64 1, .int .i64 1, .int .i64 1, .int .i64 2, .int .i64 0, .int .i64 999] 3)).cell? ⟨sb, 0, none⟩ = some (.slice D N cN) ∧ (W3.alloc (.cells #[.int .i64 1, .int .i64 1, .int .i64 1, .int .i64 2, .int .i64 0, .int .i64 999] 3)).cell? ⟨sb + 1, 0, none⟩ = some (.int .i64 x.i) ∧ (W3.alloc (.cells #[.int .i64 1, .int .i64 1, .int .i64 1, .int .i64 2, .int .i64 0, .int .i64 999] 3)).cell? ⟨sb + 1, 1, none⟩ = some (.int .i64 x.s) ∧ (W3.alloc (.cells #[.int .i64 1, .int .i64 1, .int .i64 1, .int .i64 2, .int .i64 0, .int .i64 999] 3)).cell? ⟨sb + 1, 2, none⟩ = some (.int .i64 x.t) ∧ (W3.alloc (.cells #[.int .i64 1, .int .i64 1, .int .i64 1, .int .i64 2, .int .i64 0, .int .i64 999] 3)).cell? ⟨sb + 1, 3, none⟩ = some (.int .i64 x.b) ∧ (W3.alloc (.cells #[.int .i64 1, .int .i64 1, .int .i64 1, .int .i64 2, .int .i64 0, .int .i64 999] 3)).cell? ⟨sb + 1, 4, none⟩ = some (.int .i64 x.l) ∧ (W3.alloc (.cells #[.int .i64 1, .int .i64 1, .int .i64 1, .int .i64 2, .int .i64 0, .int .i64 999] 3)).cell? ⟨sb + 1, 5, none⟩ = some (.int .i64 x.h) ∧ (W3.alloc (.cells #[.int .i64 1, .int .i64 1, .int .i64 1, .int .i64 2, .int .i64 0, .int .i64 999] 3)).cell? ⟨sb + 1, 6, none⟩ = some (.int .i64 x.c) ∧ (W3.alloc (.cells #[.int .i64 1, .int .i64 1, .int .i64 1, .int .i64 2, .int .i64 0, .int .i64 999] 3)).cell? ⟨sb + 1, 7, none⟩ = some (.slice A n c) ∧ (W3.alloc (.cells #[.int .i64 1, .int .i64 1, .int .i64 1, .int .i64 2, .int .i64 0, .int .i64 999] 3)).cell? ⟨sb + 1, 8, none⟩ = some (.slice A2 n2 c2) := (zz.below (by omega) (new1 W3 (.cells #[.int .i64 1, .int .i64 1, .int .i64 1, .int .i64 2, .int .i64 0, .int .i64 999] 3))).cells
  have hcad : (W3.alloc (.cells #[.int .i64 1, .int .i64 1, .int .i64 1, .int .i64 2, .int .i64 0, .int .i64 999] 3)).drew.cell? ⟨sb, 0, none⟩ = some (.slice D N cN) ∧ (W3.alloc (.cells #[.int .i64 1, .int .i64 1, .int .i64 1, .int .i64 2, .int .i64 0, .int .i64 999] 3)).drew.cell? ⟨sb + 1, 0, none⟩ = some (.int .i64 x.i) ∧ (W3.alloc (.cells #[.int .i64 1, .int .i64 1, .int .i64 1, .int .i64 2, .int .i64 0, .int .i64 999] 3)).drew.cell? ⟨sb + 1, 1, none⟩ = some (.int .i64 x.s) ∧ (W3.alloc (.cells #[.int .i64 1, .int .i64 1, .int .i64 1, .int .i64 2, .int .i64 0, .int .i64 999] 3)).drew.cell? ⟨sb + 1, 2, none⟩ = some (.int .i64 x.t) ∧ (W3.alloc (.cells #[.int .i64 1, .int .i64 1, .int .i64 1, .int .i64 2, .int .i64 0, .int .i64 999] 3)).drew.cell? ⟨sb + 1, 3, none⟩ = some (.int .i64 x.b) ∧ (W3.alloc (.cells #[.int .i64 1, .int .i64 1, .int .i64 1, .int .i64 2, .int .i64 0, .int .i64 999] 3)).drew.cell? ⟨sb + 1, 4, none⟩ = some (.int .i64 x.l) ∧ (W3.alloc (.cells #[.int .i64 1, .int .i64 1, .int .i64 1, .int .i64 2, .int .i64 0, .int .i64 999] 3)).drew.cell? ⟨sb + 1, 5, none⟩ = some (.int .i64 x.h) ∧ (W3.alloc (.cells #[.int .i64 1, .int .i64 1, .int .i64 1, .int .i64 2, .int .i64 0, .int .i64 999] 3)).drew.cell? ⟨sb + 1, 6, none⟩ = some (.int .i64 x.c) ∧ (W3.alloc (.cells #[.int .i64 1, .int .i64 1, .int .i64 1, .int .i64 2, .int .i64 0, .int .i64 999] 3)).drew.cell? ⟨sb + 1, 7, none⟩ = some (.slice A n c) ∧ (W3.alloc (.cells #[.int .i64 1, .int .i64 1, .int .i64 1, .int .i64 2, .int .i64 0, .int .i64 999] 3)).drew.cell? ⟨sb + 1, 8, none⟩ = some (.slice A2 n2 c2) := (zz.below (by omega) (new1 W3 (.cells #[.int .i64 1, .int .i64 1, .int .i64 1, .int .i64 2, .int .i64 0, .int .i64 999] 3))).drew.cells
  obtain ⟨st0, t0, t1, t2, t3, t4, t5, t6, t7, t8⟩ := hc3
  have hbt : sb + 1 < W3.heap.size := by omega
  clear zz hq3
  try go_wp2_with fail
  go_region_held3 (fun w' => w'.cell? ⟨sb, 0, none⟩ = some (.slice D N cN) ∧ w'.cell? ⟨sb + 1, 0, none⟩ = some (.int .i64 x.i) ∧ w'.cell? ⟨sb + 1, 1, none⟩ = some (.int .i64 x.s) ∧ w'.cell? ⟨sb + 1, 2, none⟩ = some (.int .i64 x.t) ∧ w'.cell? ⟨sb + 1, 3, none⟩ = some (.int .i64 x.b) ∧ w'.cell? ⟨sb + 1, 4, none⟩ = some (.int .i64 x.l) ∧ w'.cell? ⟨sb + 1, 5, none⟩ = some (.int .i64 x.h) ∧ w'.cell? ⟨sb + 1, 6, none⟩ = some (.int .i64 x.c) ∧ w'.cell? ⟨sb + 1, 7, none⟩ = some (.slice A n c) ∧ w'.cell? ⟨sb + 1, 8, none⟩ = some (.slice A2 n2 c2)) (first | with_reducible exact hc3d | with_reducible exact hcad | with_reducible exact hca | with_reducible exact hc4 | with_reducible exact hc4a | with_reducible exact hc5 | (first | ((repeat' apply And.intro) <;> first | with_reducible exact (put9_celld (by simp only; omega)).trans (by assumption) | with_reducible exact (cell1d (by simp only; omega)).trans (by assumption) | with_reducible exact (put9_cell (by simp only; omega)).trans (by assumption) | with_reducible exact (cell1 (by simp only; omega)).trans (by assumption) | with_reducible exact (put9_celld (by simp only; omega)).trans ((cell1 (by simp only; omega)).trans (by assumption)) | with_reducible exact (cell1d (by simp only; omega)).trans ((put9_cell (by simp only; omega)).trans (by assumption)) | with_reducible exact (put9_cell (by simp only; omega)).trans ((cell1 (by simp only; omega)).trans (by assumption)) | with_reducible exact (cell1 (by simp only; omega)).trans ((put9_cell (by simp only; omega)).trans (by assumption))) | go_keep)) (first | (go_at_call 31; (with_reducible refine (HLS.out W3.drew (Nat.le_refl _) (fun _ _ => rfl)).mono ?_); rintro e W4 ⟨he, hb4⟩; rw [HM.out] at he; subst he; have hz4 : W3.heap.size ≤ W4.heap.size := hb4.size; have z4 := Z3.out.drew.below (show sb < W3.heap.size by omega) hb4; have hc4 := z4.cells; have z4a := z4.below (by omega) (new1 W4 (.cells #[.int .i64 1, .int .i64 1, .int .i64 1, .int .i64 2, .int .i64 0, .int .i64 999] 3)); have hc4a := z4a.cells; have hll : (W4.alloc (.cells #[.int .i64 1, .int .i64 1, .int .i64 1, .int .i64 2, .int .i64 0, .int .i64 999] 3)).heap[W4.heap.size]? = some (.cells #[.int .i64 1, .int .i64 1, .int .i64 1, .int .i64 2, .int .i64 0, .int .i64 999] 3) := heap_alloc_new W4 _) | (go_at_call 31; have zA := (Z3.out.below (by omega) (new1 W3 (.cells #[.int .i64 1, .int .i64 1, .int .i64 1, .int .i64 2, .int .i64 0, .int .i64 999] 3))).drew; (with_reducible refine (HLS.out (W3.alloc (.cells #[.int .i64 1, .int .i64 1, .int .i64 1, .int .i64 2, .int .i64 0, .int .i64 999] 3)).drew (by simp) (fun q hq => ((new1 W3 (.cells #[.int .i64 1, .int .i64 1, .int .i64 1, .int .i64 2, .int .i64 0, .int .i64 999] 3)).drew).block q hq)).mono ?_); rintro e W4 ⟨he, hb4⟩; rw [HM.out] at he; subst he; have hz4 : W3.heap.size + 1 ≤ W4.heap.size := (by have := hb4.size; simpa using this); have z4 := zA.below (show sb < (W3.alloc (.cells #[.int .i64 1, .int .i64 1, .int .i64 1, .int .i64 2, .int .i64 0, .int .i64 999] 3)).drew.heap.size by simp; omega) hb4; have hL4 : W4.heap[W3.heap.size]? = some (.cells #[.int .i64 1, .int .i64 1, .int .i64 1, .int .i64 2, .int .i64 0, .int .i64 999] 3) := (hb4.block W3.heap.size (by simp)).trans (heap_alloc_new W3 _); have hc4 := z4.cells) | (go_at_call 48; (with_reducible refine (HPk.out W4.heap.size (W4.alloc (.cells #[.int .i64 1, .int .i64 1, .int .i64 1, .int .i64 2, .int .i64 0, .int .i64 999] 3)) z4a (by omega) (list_w hll)).mono ?_); rintro e W5 ⟨v, rfl, hv0, hv1, hcu5, ho5⟩; have z5 := z4a.only (by omega) (by omega) (by omega) ho5 hcu5; have hc5 := z5.cells; have s0 := z5.zs.cell; have g0 := z5.zs.fz; obtain ⟨z0, z1, z2, z3, z4x, z5x, z6, z7, z8⟩ := z5.zr.tb; have y0 := z5.zr.fz 0; have y1 := z5.zr.fz 1; have y2 := z5.zr.fz 2; have y3 := z5.zr.fz 3; have y4 := z5.zr.fz 4; have y5 := z5.zr.fz 5; have y6 := z5.zr.fz 6; have y7 := z5.zr.fz 7; have y8 := z5.zr.fz 8; obtain ⟨st5, e0, e1, e2, e3, e4, e5, e6, e7, e8⟩ := z5.cells) | (go_at_call 48; (with_reducible refine (HPk.out W3.heap.size W4 z4 (by omega) (list_w hL4)).mono ?_); rintro e W5 ⟨v, rfl, hv0, hv1, hcu5, ho5⟩; have z5 := z4.only (by omega) (by omega) (by omega) ho5 hcu5; have hc5 := z5.cells; have s0 := z5.zs.cell; have g0 := z5.zs.fz; obtain ⟨z0, z1, z2, z3, z4x, z5x, z6, z7, z8⟩ := z5.zr.tb; have y0 := z5.zr.fz 0; have y1 := z5.zr.fz 1; have y2 := z5.zr.fz 2; have y3 := z5.zr.fz 3; have y4 := z5.zr.fz 4; have y5 := z5.zr.fz 5; have y6 := z5.zr.fz 6; have y7 := z5.zr.fz 7; have y8 := z5.zr.fz 8; obtain ⟨st5, e0, e1, e2, e3, e4, e5, e6, e7, e8⟩ := z5.cells))
  all_goals
    have hF := fun W' hW => fin_19 (W' := W') (x := x) (A := A) (n := n) (c := c) (R := R) (A2 := A2) (n2 := n2) (c2 := c2) (S := S) (D := D) (N := N) (cN := cN) z5.zs z5.zr z5.own z5.bel (Nat.le_refl _) (Nat.le_succ _) (by omega) (by omega) (by omega) hW
    have hG := fun W' hW => fin_91 (W' := W') (x := x) (A := A) (n := n) (c := c) (R := R) (A2 := A2) (n2 := n2) (c2 := c2) (S := S) (D := D) (N := N) (cN := cN) z5.zs z5.zr z5.own z5.bel (Nat.le_refl _) (Nat.le_succ _) (by omega) (by omega) (by omega) hW
    have hsz5 := z5.sz
    have hblk5 := z5.blk
    clear t0 t1 t2 t3 t4 t5 t6 t7 t8 st0 st5 s0 g0 z0 z1 z2 z3 z4x z5x z6 z7 z8 y0 y1 y2 y3 y4 y5 y6 y7 y8 e0 e1 e2 e3 e4 e5 e6 e7 e8 hc3d hca hcad hc4 hc5
    try go_wp2_with fail
    generalize hW : World.setCell _ _ _ = W9
    obtain ⟨e9, ⟨e0, e1, e2, e3, e4, e5, e6, e7, e8⟩, hO, hB9, hz9, hk9⟩ := (by first | exact hF W9 hW | exact hG W9 hW : Fin6 w W5 W9 w.heap.size (w.heap.size + 1) x A n c R A2 n2 c2 S D N cN (w.heap.size + 5))
    have hsz9 : W5.heap.size = W9.heap.size := hz9.symm
    have hwq : IntKind.i64.wrap (m + v) = m + v := by rw [IntKind.wrap_i64]; omega
    exact bodyPost_ret (v := .tuple #[.agg #[.slice D N cN], txv x (.slice A n c) (.slice A2 n2 c2), .int .i64 (m + v)]) (by simp [results, Tryz.results23, go_sem, e0, e1, e2, e3, e4, e5, e6, e7, e8, e9, hwq]) rfl ⟨D, N, cN, C, x, A, n, c, R, A2, n2, c2, S, m + v, rfl, hN, hn, hn2, fun W hs hq => HRS.out W (by omega) (fun q h1 h2 => (hq q (by omega) (by omega)).trans ((hk9 q (by omega) (by omega)).trans ((hblk5 q (by omega) (by omega)).trans (HQ3.out q (by omega))))), hO.more (by omega), hB9, by omega⟩
end Go.Proofs.YtbnkkgjkhpbgiaaGreatDoor.d83
/- The model's DrawFinalWindow: a drawn store, a drawn transaction, a stamp. -/
namespace Go.Proofs.YtbnkkgjkhpbgiaaGreatDoor.dfw
open Go.ChangeShapes Go.WideShapes Go.ChangeAt Go.RowKit
open Go.Proofs.YtbnkkgjkhpbgiaaGreatDoor.el2 Go.Proofs.YtbnkkgjkhpbgiaaGreatDoor.tx Go.Proofs.YtbnkkgjkhpbgiaaGreatDoor.ap Go.Proofs.YtbnkkgjkhpbgiaaGreatDoor.bx Go.Proofs.YtbnkkgjkhpbgiaaGreatDoor.ad Go.Proofs.YtbnkkgjkhpbgiaaGreatDoor.sf Go.Proofs.YtbnkkgjkhpbgiaaGreatDoor.dr Go.Proofs.YtbnkkgjkhpbgiaaGreatDoor.drt Go.Proofs.YtbnkkgjkhpbgiaaGreatDoor.dpr Go.Proofs.YtbnkkgjkhpbgiaaGreatDoor.d83
open Go.Proofs.YtbnkkgjkhpbgiaaGreatDoor.drh (code_more)
open Go.Proofs.YtbnkkgjkhpbgiaaGreatDoor.cur (CurAt CodeAt Kp Only below_calls pick_calls new_calls cur_new)
open Go.Proofs.YtbnkkgjkhpbgiaaGreatDoor.vers (new2)
open Go.Proofs.YtbnkkgjkhpbgiaaGreatDoor.sl (Ver)
open Go.Proofs.YtbnkkgjkhpbgiaaGreatDoor.st (Rs)
set_option linter.unusedVariables false
set_option linter.unusedSimpArgs false
/-- a drawn store and a drawn transaction -/
def DFW (w : World) (e : Ending) (w' : World) : Prop :=
  ∃ (D : Option Addr) (N cN : Nat) (C : List (List Ver)) (x : Hd) (A : Option Addr) (n c : Nat) (R : List E2) (A2 : Option Addr) (n2 c2 : Nat) (S : List E2) (k : Int), e = .returned (.tuple #[.agg #[.slice D N cN], txv x (.slice A n c) (.slice A2 n2 c2), .int .i64 k]) ∧ N ≤ 6 ∧ n ≤ 5 ∧ n2 ≤ 5 ∧ Rs w' w'.heap.size D N C ∧ OwnT w' w.heap.size (.slice A n c) n R (.slice A2 n2 c2) n2 S ∧ Below w.heap.size w w'
set_option maxRecDepth 100000 in
set_option maxHeartbeats 6400000 in
theorem draw_fw (a : Option Addr) (len cap : Nat) (w : World) (hl : len ≤ 1048576) (hcode : CodeAt w w.heap.size a len) :
    Calls Tryz.prog 6 #[.slice a len cap] w (DFW w) := by
  have hb0 := new2 w (.cells #[.slice none 0 0] 26) (.cells #[.int .i64 0, .int .i64 0, .int .i64 0, .int .i64 0, .int .i64 0, .int .i64 0, .int .i64 0, .slice none 0 0, .slice none 0 0] 30)
  have HP := Lib.hid (draw_three a len cap ((w.alloc (.cells #[.slice none 0 0] 26)).alloc (.cells #[.int .i64 0, .int .i64 0, .int .i64 0, .int .i64 0, .int .i64 0, .int .i64 0, .int .i64 0, .slice none 0 0, .slice none 0 0] 30)) hl (code_more (hcode.below (Nat.le_refl _) hb0) hb0.size))
  clear hcode
  go_enter Tryz.func6, Tryz.ntmps6
  go_wp2_with fail
  have zs : Sx ((w.alloc (.cells #[.slice none 0 0] 26)).alloc (.cells #[.int .i64 0, .int .i64 0, .int .i64 0, .int .i64 0, .int .i64 0, .int .i64 0, .int .i64 0, .slice none 0 0, .slice none 0 0] 30)) w.heap.size (.slice none 0 0) := (Sx.new w (.slice none 0 0)).of_block ((new1 (w.alloc (.cells #[.slice none 0 0] 26)) (.cells #[.int .i64 0, .int .i64 0, .int .i64 0, .int .i64 0, .int .i64 0, .int .i64 0, .int .i64 0, .slice none 0 0, .slice none 0 0] 30)).block w.heap.size (by simp))
  have zr := Bx.zero (w.alloc (.cells #[.slice none 0 0] 26))
  rw [show (w.alloc (.cells #[.slice none 0 0] 26)).heap.size = w.heap.size + 1 by simp] at zr
  have hs0 : ((w.alloc (.cells #[.slice none 0 0] 26)).alloc (.cells #[.int .i64 0, .int .i64 0, .int .i64 0, .int .i64 0, .int .i64 0, .int .i64 0, .int .i64 0, .slice none 0 0, .slice none 0 0] 30)).heap.size = w.heap.size + 2 := by simp
  have hs0' : w.heap.size + 2 ≤ ((w.alloc (.cells #[.slice none 0 0] 26)).alloc (.cells #[.int .i64 0, .int .i64 0, .int .i64 0, .int .i64 0, .int .i64 0, .int .i64 0, .int .i64 0, .slice none 0 0, .slice none 0 0] 30)).heap.size := by simp
  generalize (w.alloc _).alloc _ = w0 at hb0 zs zr hs0 hs0' HP ⊢
  have HB0 := Lib.hid hb0
  have HS0 := Lib.hid hs0
  clear hb0 hs0
  refine HP.out.mono ?_
  rintro e W1 ⟨D, N, cN, C, x, A, n, c, R, A2, n2, c2, S, k, rfl, hN, hn, hn2, hrs, hown, hb1, hs1⟩
  have HRS := Lib.hid hrs
  have hb01 := HB0.out.trans (hb1.mono HB0.out.size)
  have zs1 := zs.of_block (hb1.block w.heap.size (by omega))
  have zr1 := zr.of_block (hb1.block (w.heap.size + 1) (by omega))
  have hnn := new2 W1 (.cells #[.slice D N cN] 26) (.cells #[.int .i64 x.i, .int .i64 x.s, .int .i64 x.t, .int .i64 x.b, .int .i64 x.l, .int .i64 x.h, .int .i64 x.c, .slice A n c, .slice A2 n2 c2] 30)
  have st3 := st.up (.cells #[.int .i64 x.i, .int .i64 x.s, .int .i64 x.t, .int .i64 x.b, .int .i64 x.l, .int .i64 x.h, .int .i64 x.c, .slice A n c, .slice A2 n2 c2] 30) (st.one_cell W1 (.slice D N cN) 26) (by simp)
  have bx3 := Bx.new (W1.alloc (.cells #[.slice D N cN] 26)) x (.slice A n c) (.slice A2 n2 c2)
  rw [show (W1.alloc (.cells #[.slice D N cN] 26)).heap.size = W1.heap.size + 1 by simp] at bx3
  have zs3 := zs1.of_block (hnn.block w.heap.size (by omega))
  have zr3 := zr1.of_block (hnn.block (w.heap.size + 1) (by omega))
  have ow3 := (hown.more (show w.heap.size + 2 ≤ _ by omega)).keep hnn
  have hb3 := hb01.trans (hnn.mono (by have := hb01.size; omega))
  have hl3 : W1.heap.size + 2 ≤ ((W1.alloc (.cells #[.slice D N cN] 26)).alloc (.cells #[.int .i64 x.i, .int .i64 x.s, .int .i64 x.t, .int .i64 x.b, .int .i64 x.l, .int .i64 x.h, .int .i64 x.c, .slice A n c, .slice A2 n2 c2] 30)).heap.size := by simp
  have hz3 : w.heap.size + 5 ≤ W1.heap.size := by omega
  clear hrs hown zs1 zr1 zs zr hb01 hb1
  go_wp2_with fail
  generalize hsb : W1.heap.size = sb at st3 bx3 hl3 hz3 ⊢
  have hq3 : ∀ q, q < sb → ((W1.alloc (.cells #[.slice D N cN] 26)).alloc (.cells #[.int .i64 x.i, .int .i64 x.s, .int .i64 x.t, .int .i64 x.b, .int .i64 x.l, .int .i64 x.h, .int .i64 x.c, .slice A n c, .slice A2 n2 c2] 30)).heap[q]? = W1.heap[q]? := fun q hq => hnn.block q (by omega)
  generalize (W1.alloc _).alloc _ = W3 at st3 bx3 zs3 zr3 ow3 hb3 hl3 hq3 ⊢
  have HQ3 := Lib.hid hq3
  have OW := Lib.hid ow3
  have HB3 := Lib.hid hb3
  have ZS3 := Lib.hid zs3
  have ZR3 := Lib.hid zr3
  clear hnn hq3 ow3 hb3
  obtain ⟨t0, t1, t2, t3, t4, t5, t6, t7, t8⟩ := bx3.tb
  have s0 := zs3.cell
  have g0 := zs3.fz
  obtain ⟨z0, z1, z2, z3, z4, z5, z6, z7, z8⟩ := zr3.tb
  have y0 := zr3.fz 0
  have y1 := zr3.fz 1
  have y2 := zr3.fz 2
  have y3 := zr3.fz 3
  have y4 := zr3.fz 4
  have y5 := zr3.fz 5
  have y6 := zr3.fz 6
  have y7 := zr3.fz 7
  have y8 := zr3.fz 8
  clear bx3 zs3 zr3
  try go_wp2_with fail
  go_region_held3 (fun w' => w'.cell? ⟨sb, 0, none⟩ = some (.slice D N cN) ∧ w'.cell? ⟨sb + 1, 0, none⟩ = some (.int .i64 x.i) ∧ w'.cell? ⟨sb + 1, 1, none⟩ = some (.int .i64 x.s) ∧ w'.cell? ⟨sb + 1, 2, none⟩ = some (.int .i64 x.t) ∧ w'.cell? ⟨sb + 1, 3, none⟩ = some (.int .i64 x.b) ∧ w'.cell? ⟨sb + 1, 4, none⟩ = some (.int .i64 x.l) ∧ w'.cell? ⟨sb + 1, 5, none⟩ = some (.int .i64 x.h) ∧ w'.cell? ⟨sb + 1, 6, none⟩ = some (.int .i64 x.c) ∧ w'.cell? ⟨sb + 1, 7, none⟩ = some (.slice A n c) ∧ w'.cell? ⟨sb + 1, 8, none⟩ = some (.slice A2 n2 c2)) (first | ((repeat' apply And.intro) <;> first | with_reducible exact (put9_celld (by simp only; omega)).trans (by assumption) | with_reducible exact (cell1d (by simp only; omega)).trans (by assumption) | with_reducible exact (put9_cell (by simp only; omega)).trans (by assumption) | with_reducible exact (cell1 (by simp only; omega)).trans (by assumption) | with_reducible exact (put9_celld (by simp only; omega)).trans ((cell1 (by simp only; omega)).trans (by assumption)) | with_reducible exact (cell1d (by simp only; omega)).trans ((put9_cell (by simp only; omega)).trans (by assumption)) | with_reducible exact (put9_cell (by simp only; omega)).trans ((cell1 (by simp only; omega)).trans (by assumption)) | with_reducible exact (cell1 (by simp only; omega)).trans ((put9_cell (by simp only; omega)).trans (by assumption))) | go_keep) (fail)
  all_goals
    have hF := fun W' hW => fin_19 (W' := W') (x := x) (A := A) (n := n) (c := c) (R := R) (A2 := A2) (n2 := n2) (c2 := c2) (S := S) (D := D) (N := N) (cN := cN) ZS3.out ZR3.out OW.out HB3.out (Nat.le_refl _) (Nat.le_succ _) (by omega) (by omega) (by omega) hW
    have hG := fun W' hW => fin_91 (W' := W') (x := x) (A := A) (n := n) (c := c) (R := R) (A2 := A2) (n2 := n2) (c2 := c2) (S := S) (D := D) (N := N) (cN := cN) ZS3.out ZR3.out OW.out HB3.out (Nat.le_refl _) (Nat.le_succ _) (by omega) (by omega) (by omega) hW
    clear t0 t1 t2 t3 t4 t5 t6 t7 t8 st3 s0 g0 z0 z1 z2 z3 z4 z5 z6 z7 z8 y0 y1 y2 y3 y4 y5 y6 y7 y8
    try go_wp2_with fail
    generalize hW : World.setCell _ _ _ = W8x
    obtain ⟨q9, ⟨q0, q1, q2, q3, q4, q5, q6, q7, q8⟩, _⟩ := (by first | exact hF W8x hW | exact hG W8x hW : Fin6 w W3 W8x w.heap.size (w.heap.size + 1) x A n c R A2 n2 c2 S D N cN (w.heap.size + 2))
    obtain ⟨e9, ⟨e0, e1, e2, e3, e4, e5, e6, e7, e8⟩, hO, hB9, hz9, hk9⟩ := (by first | exact (hF W8x hW).drew | exact (hG W8x hW).drew : Fin6 w W3 W8x.drew w.heap.size (w.heap.size + 1) x A n c R A2 n2 c2 S D N cN (w.heap.size + 2))
    have hrs9 := HRS.out W8x.drew (by omega) (fun q h1 h2 => (hk9 q (by omega) (by omega)).trans (HQ3.out q (by omega)))
    exact bodyPost_ret (v := .tuple #[.agg #[.slice D N cN], txv x (.slice A n c) (.slice A2 n2 c2), .int .i64 k]) (by simp [results, Tryz.results6, go_sem, e0, e1, e2, e3, e4, e5, e6, e7, e8, e9, q0, q1, q2, q3, q4, q5, q6, q7, q8, q9]) rfl ⟨D, N, cN, C, x, A, n, c, R, A2, n2, c2, S, k, rfl, hN, hn, hn2, hrs9, hO.more (by omega), hB9⟩
end Go.Proofs.YtbnkkgjkhpbgiaaGreatDoor.dfw
/- FnExclusion: the walk at a code that is not too long. -/
namespace Go.Proofs.YtbnkkgjkhpbgiaaGreatDoor.xc
open Go.ChangeShapes Go.WideShapes Go.ChangeAt Go.RowKit
open Go.Proofs.YtbnkkgjkhpbgiaaGreatDoor.el2 Go.Proofs.YtbnkkgjkhpbgiaaGreatDoor.tx Go.Proofs.YtbnkkgjkhpbgiaaGreatDoor.seq Go.Proofs.YtbnkkgjkhpbgiaaGreatDoor.tv Go.Proofs.YtbnkkgjkhpbgiaaGreatDoor.tf Go.Proofs.YtbnkkgjkhpbgiaaGreatDoor.bx Go.Proofs.YtbnkkgjkhpbgiaaGreatDoor.mx Go.Proofs.YtbnkkgjkhpbgiaaGreatDoor.em Go.Proofs.YtbnkkgjkhpbgiaaGreatDoor.ep
open Go.Proofs.YtbnkkgjkhpbgiaaGreatDoor.cur (CurAt CodeAt big_no)
open Go.Proofs.YtbnkkgjkhpbgiaaGreatDoor.vers (new2)
open Go.Proofs.YtbnkkgjkhpbgiaaGreatDoor.sl (Ver)
open Go.Proofs.YtbnkkgjkhpbgiaaGreatDoor.st (Rs)
open Go.Proofs.YtbnkkgjkhpbgiaaGreatDoor.erv (Facts)
set_option linter.unusedVariables false
set_option linter.unusedSimpArgs false
theorem neq_same (x : E2) (w : World) : (binOp .neq 38 (.agg #[.int .i64 x.a, .int .i64 x.b]) (.agg #[.int .i64 x.a, .int .i64 x.b])).run Tryz.prog w = .ok (.bool false) w := by
  rw [run_neq_struct, run_equalIn_struct w 9999 38 _ _ fields_rm held_rm]
  have hu := Tryz.underlying38
  have hi := Tryz.underlying3
  simp only [Program.fieldsOf, hu]
  simp [Op.eqFields, go_sem, hi]
theorem own_two {w : World} {base n c n2 c2 : Nat} {A A2 : Option Addr} {R S : List E2} (h : OwnT w base (.slice A n c) n R (.slice A2 n2 c2) n2 S) : Vs w w.heap.size A n R ∧ Vs w w.heap.size A2 n2 S := by
  obtain ⟨A', c', e, hv, _⟩ := own_vs h.1 (by have := h.1.1; rw [flat_len] at this; omega)
  obtain ⟨A2', c2', e2, hv2, _⟩ := own_vs h.2 (by have := h.2.1; rw [flat_len] at this; omega)
  injection e with e1 _ e3
  injection e2 with f1 _ f3
  subst e1
  subst f1
  exact ⟨hv, hv2⟩
/-- the four cases of a window -/
theorem four (C : List (List Ver)) (x : Hd) (R S : List E2) (z : Int) :
    (fwB C x R S z = false ∧ xpB C x R S z = false ∧ mayB C x R S z = false ∧ ¬ 0 < roomI C x R S z) ∨
    (fwB C x R S z = true ∧ fwL C x R S z < fwH C x R S z ∧ xpB C x R S z = false ∧ mayB C x R S z = true ∧ 0 < roomI C x R S z) ∨
    (fwB C x R S z = true ∧ ¬ fwL C x R S z < fwH C x R S z ∧ mayB C x R S z = false ∧ ¬ 0 < roomI C x R S z ∧ (xpB C x R S z = false ∨ (xpB C x R S z = true ∧ xpH C x R S z ∈ R))) := by
  have hroom := room_may (C := C) (x := x) (R := R) (S := S) (z := z)
  rcases hf : fwB C x R S z with _ | _
  · have hm := may_no hf
    rw [hm] at hroom
    exact Or.inl ⟨rfl, xp_no hf, hm, of_decide_eq_false hroom⟩
  · have hm := may_is hf
    by_cases hlt : fwL C x R S z < fwH C x R S z
    · have hmt : mayB C x R S z = true := by rw [hm]; exact decide_eq_true hlt
      rw [hmt] at hroom
      refine Or.inr (Or.inl ⟨rfl, hlt, ?_, hmt, of_decide_eq_true hroom⟩)
      rcases hx : xpB C x R S z with _ | _
      · rfl
      · rw [may_xp hx] at hmt; cases hmt
    · have hmt : mayB C x R S z = false := by rw [hm]; exact decide_eq_false hlt
      rw [hmt] at hroom
      refine Or.inr (Or.inr ⟨rfl, hlt, hmt, of_decide_eq_false hroom, ?_⟩)
      rcases hx : xpB C x R S z with _ | _
      · exact Or.inl rfl
      · exact Or.inr ⟨rfl, xp_mem hx⟩
set_option maxRecDepth 100000 in
set_option maxHeartbeats 12800000 in
theorem core (a : Option Addr) (len cap : Nat) (w : World) (hl : len ≤ 1048576) (hcode : CodeAt w w.heap.size a len) (hF : Facts w) :
    Calls Tryz.prog 3 #[.slice a len cap] w fun e w' => e = .returned (.bool true) ∧ Below w.heap.size w w' := by
  have BIG := Lib.hid (big_no a len cap w (by omega))
  have HT := Lib.hid (Go.Proofs.YtbnkkgjkhpbgiaaGreatDoor.dfw.draw_fw a len cap w hl hcode)
  have HFX := Lib.hid hF
  clear hcode hF
  go_enter Tryz.func3, Tryz.ntmps3
  go_wp2_with fail
  refine BIG.out.mono ?_
  rintro e w' ⟨rfl, rfl⟩
  clear BIG
  go_wp2_with fail
  refine HT.out.mono ?_
  rintro e W1 ⟨D, N, cN, C, x, A, n, c, R, A2, n2, c2, S, k, rfl, hN, hn, hn2, hrs, hown, hb1⟩
  have hnn := new2 W1 (.cells #[.slice D N cN] 26) (.cells #[.int .i64 x.i, .int .i64 x.s, .int .i64 x.t, .int .i64 x.b, .int .i64 x.l, .int .i64 x.h, .int .i64 x.c, .slice A n c, .slice A2 n2 c2] 30)
  obtain ⟨v1, v2⟩ := own_two hown
  have st := Go.Proofs.YtbnkkgjkhpbgiaaGreatDoor.st.up (.cells #[.int .i64 x.i, .int .i64 x.s, .int .i64 x.t, .int .i64 x.b, .int .i64 x.l, .int .i64 x.h, .int .i64 x.c, .slice A n c, .slice A2 n2 c2] 30) (Go.Proofs.YtbnkkgjkhpbgiaaGreatDoor.st.one_cell W1 (.slice D N cN) 26) (by simp)
  have tb := TB.new (W1.alloc (.cells #[.slice D N cN] 26)) x A n c A2 n2 c2 30
  rw [show (W1.alloc (.cells #[.slice D N cN] 26)).heap.size = W1.heap.size + 1 by simp] at tb
  have r1 := Lib.hid (v1.below hnn)
  have r2 := Lib.hid (v2.below hnn)
  have r3 := Lib.hid (hrs.below hnn)
  have hbb := hb1.trans (hnn.mono hb1.size)
  have hzz : W1.heap.size + 2 ≤ ((W1.alloc (.cells #[.slice D N cN] 26)).alloc (.cells #[.int .i64 x.i, .int .i64 x.s, .int .i64 x.t, .int .i64 x.b, .int .i64 x.l, .int .i64 x.h, .int .i64 x.c, .slice A n c, .slice A2 n2 c2] 30)).heap.size := by simp
  clear v1 v2 hrs hown hnn HT hb1
  obtain ⟨t0, t1, t2, t3, t4, t5, t6, t7, t8⟩ := tb
  have tb : TB _ _ x (.slice A n c) (.slice A2 n2 c2) := ⟨t0, t1, t2, t3, t4, t5, t6, t7, t8⟩
  go_wp2_with fail
  clear t0 t1 t2 t3 t4 t5 t6 t7 t8
  generalize hsb : W1.heap.size = sb at st tb hzz r1 r2 r3 ⊢
  generalize (W1.alloc _).alloc _ = Wb at st tb hzz hbb r1 r2 r3 ⊢
  clear hsb
  have H1 := Lib.hid (r1.out.more (show sb ≤ Wb.heap.size by omega))
  have H2 := Lib.hid (r2.out.more (show sb ≤ Wb.heap.size by omega))
  have H3 := Lib.hid (r3.out.more (show sb ≤ Wb.heap.size by omega))
  have STB := Lib.hid st
  have TBB := Lib.hid tb
  have HBB := Lib.hid hbb
  have hls : sb < Wb.heap.size := by omega
  have hlt : sb + 1 < Wb.heap.size := by omega
  clear st tb hbb r1 r2 r3 hzz
  obtain ⟨qa, hqa⟩ : ∃ q, Go.Proofs.YtbnkkgjkhpbgiaaGreatDoor.em.fwL C x R S k = q := ⟨_, rfl⟩
  have Qa := Lib.hid hqa
  obtain ⟨qb, hqb⟩ : ∃ q, Go.Proofs.YtbnkkgjkhpbgiaaGreatDoor.em.fwH C x R S k = q := ⟨_, rfl⟩
  have Qb := Lib.hid hqb
  obtain ⟨qf, hqf⟩ : ∃ q, Go.Proofs.YtbnkkgjkhpbgiaaGreatDoor.em.fwB C x R S k = q := ⟨_, rfl⟩
  have Qf := Lib.hid hqf
  obtain ⟨qm, hqm⟩ : ∃ q, Go.Proofs.YtbnkkgjkhpbgiaaGreatDoor.em.mayB C x R S k = q := ⟨_, rfl⟩
  have Qm := Lib.hid hqm
  obtain ⟨qr, hqr⟩ : ∃ q, Go.Proofs.YtbnkkgjkhpbgiaaGreatDoor.em.roomI C x R S k = q := ⟨_, rfl⟩
  have Qr := Lib.hid hqr
  obtain ⟨qL, hqL⟩ : ∃ q, Go.Proofs.YtbnkkgjkhpbgiaaGreatDoor.ep.xpL C x R S k = q := ⟨_, rfl⟩
  have QL := Lib.hid hqL
  obtain ⟨qH, hqH⟩ : ∃ q, Go.Proofs.YtbnkkgjkhpbgiaaGreatDoor.ep.xpH C x R S k = q := ⟨_, rfl⟩
  have QH := Lib.hid hqH
  obtain ⟨qp, hqp⟩ : ∃ q, Go.Proofs.YtbnkkgjkhpbgiaaGreatDoor.ep.xpB C x R S k = q := ⟨_, rfl⟩
  have Qp := Lib.hid hqp
  have hall := four C x R S k
  rw [hqa, hqb, hqf, hqm, hqr, hqp] at hall
  have HALL := Lib.hid hall
  clear hall hqa hqb hqf hqm hqr hqL hqH hqp
  have K0 : Hid (Below Wb.heap.size Wb Wb) := Lib.hid (Below.refl _ _)
  have st := (K0.out.cell (p := ⟨sb, 0, none⟩) hls).trans STB.out
  obtain ⟨t0, t1, t2, t3, t4, t5, t6, t7, t8⟩ := TB.keep TBB.out hlt K0.out
  try go_wp2_with fail
  refine (Go.Proofs.YtbnkkgjkhpbgiaaGreatDoor.fw.impl_fw x k (by omega) (by omega) (by omega) (H1.out.below K0.out) (H2.out.below K0.out) (H3.out.below K0.out) K0.out.size).mono ?_
  rintro e W2 ⟨he, hb⟩
  rw [Qa.out, Qb.out, Qf.out] at he
  subst he
  have K1 := Lib.hid (K0.out.trans (hb.mono K0.out.size))
  clear hb
  clear st t0 t1 t2 t3 t4 t5 t6 t7 t8
  have st := (K1.out.cell (p := ⟨sb, 0, none⟩) hls).trans STB.out
  obtain ⟨t0, t1, t2, t3, t4, t5, t6, t7, t8⟩ := TB.keep TBB.out hlt K1.out
  go_wp2_with fail
  refine (Go.Proofs.YtbnkkgjkhpbgiaaGreatDoor.fw.spec_fw x k (by omega) (by omega) (by omega) (H1.out.below K1.out) (H2.out.below K1.out) (H3.out.below K1.out) K1.out.size).mono ?_
  rintro e W3 ⟨he, hb⟩
  rw [Qa.out, Qb.out, Qf.out] at he
  subst he
  have K2 := Lib.hid (K1.out.trans (hb.mono K1.out.size))
  clear hb
  clear st t0 t1 t2 t3 t4 t5 t6 t7 t8
  have st := (K2.out.cell (p := ⟨sb, 0, none⟩) hls).trans STB.out
  obtain ⟨t0, t1, t2, t3, t4, t5, t6, t7, t8⟩ := TB.keep TBB.out hlt K2.out
  go_wp2_with fail
  refine (Go.Proofs.YtbnkkgjkhpbgiaaGreatDoor.crm.impl_may x k (by omega) (by omega) (by omega) (H1.out.below K2.out) (H2.out.below K2.out) (H3.out.below K2.out) K2.out.size (Facts.ev (HFX.out.below (HBB.out.trans (K2.out.mono HBB.out.size))))).mono ?_
  rintro e W4 ⟨he, hb⟩
  rw [Qm.out] at he
  subst he
  have K3 := Lib.hid (K2.out.trans (hb.mono K2.out.size))
  clear hb
  clear st t0 t1 t2 t3 t4 t5 t6 t7 t8
  have st := (K3.out.cell (p := ⟨sb, 0, none⟩) hls).trans STB.out
  obtain ⟨t0, t1, t2, t3, t4, t5, t6, t7, t8⟩ := TB.keep TBB.out hlt K3.out
  have hbk0 : Below Wb.heap.size Wb W4.drew := K3.out.drew
  try go_wp2_with fail
  go_region_held3 (fun w' => w'.cell? ⟨sb, 0, none⟩ = some (.slice D N cN) ∧ w'.cell? ⟨sb + 1, 0, none⟩ = some (.int .i64 x.i) ∧ w'.cell? ⟨sb + 1, 1, none⟩ = some (.int .i64 x.s) ∧ w'.cell? ⟨sb + 1, 2, none⟩ = some (.int .i64 x.t) ∧ w'.cell? ⟨sb + 1, 3, none⟩ = some (.int .i64 x.b) ∧ w'.cell? ⟨sb + 1, 4, none⟩ = some (.int .i64 x.l) ∧ w'.cell? ⟨sb + 1, 5, none⟩ = some (.int .i64 x.h) ∧ w'.cell? ⟨sb + 1, 6, none⟩ = some (.int .i64 x.c) ∧ w'.cell? ⟨sb + 1, 7, none⟩ = some (.slice A n c) ∧ w'.cell? ⟨sb + 1, 8, none⟩ = some (.slice A2 n2 c2)) (go_keep) (first | (go_at_call 12; (with_reducible refine (Go.Proofs.YtbnkkgjkhpbgiaaGreatDoor.fw.spec_room x k (by omega) (by omega) (by omega) (H1.out.below hbk2) (H2.out.below hbk2) (H3.out.below hbk2) hbk2.size).mono ?_); rintro e X3 ⟨he, hb⟩; rw [Qr.out] at he; subst he; have hbk3 := hbk2.trans (hb.mono hbk2.size); clear hb; have v2 := (hbk3.cell (p := ⟨sb, 0, none⟩) hls).trans STB.out; obtain ⟨um0, um1, um2, um3, um4, um5, um6, um7, um8⟩ := TB.keep TBB.out hlt hbk3) | (go_at_call 11; (with_reducible refine (Go.Proofs.YtbnkkgjkhpbgiaaGreatDoor.fw.impl_room x k (by omega) (by omega) (by omega) (H1.out.below hbk1) (H2.out.below hbk1) (H3.out.below hbk1) hbk1.size).mono ?_); rintro e X2 ⟨he, hb⟩; rw [Qr.out] at he; subst he; have hbk2 := hbk1.trans (hb.mono hbk1.size); clear hb; have v1 := (hbk2.cell (p := ⟨sb, 0, none⟩) hls).trans STB.out; obtain ⟨ul0, ul1, ul2, ul3, ul4, ul5, ul6, ul7, ul8⟩ := TB.keep TBB.out hlt hbk2) | (go_at_call 10; (with_reducible refine (Go.Proofs.YtbnkkgjkhpbgiaaGreatDoor.crm.spec_may x k (by omega) (by omega) (by omega) (H1.out.below hbk0) (H2.out.below hbk0) (H3.out.below hbk0) hbk0.size).mono ?_); rintro e X1 ⟨he, hb⟩; rw [Qm.out] at he; subst he; have hbk1 := hbk0.trans (hb.mono hbk0.size); clear hb; have v0 := (hbk1.cell (p := ⟨sb, 0, none⟩) hls).trans STB.out; obtain ⟨uk0, uk1, uk2, uk3, uk4, uk5, uk6, uk7, uk8⟩ := TB.keep TBB.out hlt hbk1))
  have K4 := Lib.hid hbk3
  clear st hbk0 hbk1 hbk2 hbk3 v0 v1 v2 t0 t1 t2 t3 t4 t5 t6 t7 t8 uk0 uk1 uk2 uk3 uk4 uk5 uk6 uk7 uk8 ul0 ul1 ul2 ul3 ul4 ul5 ul6 ul7 ul8 um0 um1 um2 um3 um4 um5 um6 um7 um8
  have st := (K4.out.cell (p := ⟨sb, 0, none⟩) hls).trans STB.out
  obtain ⟨t0, t1, t2, t3, t4, t5, t6, t7, t8⟩ := TB.keep TBB.out hlt K4.out
  go_wp2_with fail
  refine (Go.Proofs.YtbnkkgjkhpbgiaaGreatDoor.xi.impl_xp x k (by omega) (by omega) (by omega) (H1.out.below K4.out) (H2.out.below K4.out) (H3.out.below K4.out) K4.out.size (Facts.ev (HFX.out.below (HBB.out.trans (K4.out.mono HBB.out.size)))) (Facts.eh (HFX.out.below (HBB.out.trans (K4.out.mono HBB.out.size))))).mono ?_
  rintro e W6 ⟨he, hb⟩
  rw [QL.out, QH.out, Qp.out] at he
  subst he
  have K5 := Lib.hid (K4.out.trans (hb.mono K4.out.size))
  clear hb
  clear st t0 t1 t2 t3 t4 t5 t6 t7 t8
  have hnn := new2 W6 (.cells #[.int .i64 qL.a, .int .i64 qL.b] 38) (.cells #[.int .i64 qH.a, .int .i64 qH.b] 38)
  have m1 := (Mx.new W6 qL).keep (new1 (W6.alloc (.cells #[.int .i64 qL.a, .int .i64 qL.b] 38)) (.cells #[.int .i64 qH.a, .int .i64 qH.b] 38)) (by simp)
  have m2 := Mx.new (W6.alloc (.cells #[.int .i64 qL.a, .int .i64 qL.b] 38)) qH
  rw [show (W6.alloc (.cells #[.int .i64 qL.a, .int .i64 qL.b] 38)).heap.size = W6.heap.size + 1 by simp] at m2
  have hkk := K5.out.trans (hnn.mono K5.out.size)
  have st := (hkk.cell (p := ⟨sb, 0, none⟩) hls).trans STB.out
  obtain ⟨t0, t1, t2, t3, t4, t5, t6, t7, t8⟩ := TB.keep TBB.out hlt hkk
  go_wp2_with fail
  clear st t0 t1 t2 t3 t4 t5 t6 t7 t8
  generalize hk : W6.heap.size = gb at m1 m2 ⊢
  generalize (W6.alloc _).alloc _ = W7 at m1 m2 hkk ⊢
  clear hk hnn
  have K6 := Lib.hid hkk
  clear hkk
  have G1 := Lib.hid m1
  have G2 := Lib.hid m2
  clear m1 m2
  have st := (K6.out.cell (p := ⟨sb, 0, none⟩) hls).trans STB.out
  obtain ⟨t0, t1, t2, t3, t4, t5, t6, t7, t8⟩ := TB.keep TBB.out hlt K6.out
  go_wp2_with fail
  refine (Go.Proofs.YtbnkkgjkhpbgiaaGreatDoor.xs.spec_xp x k (by omega) (by omega) (by omega) (H1.out.below K6.out) (H2.out.below K6.out) (H3.out.below K6.out) K6.out.size).mono ?_
  rintro e W8 ⟨he, hb⟩
  rw [QL.out, QH.out, Qp.out] at he
  subst he
  have K7 := Lib.hid (K6.out.trans (hb.mono K6.out.size))
  have G1 := Lib.hid (G1.out.keep hb G1.out.lt)
  have G2 := Lib.hid (G2.out.keep hb G2.out.lt)
  clear hb
  clear st t0 t1 t2 t3 t4 t5 t6 t7 t8
  have hnn := new2 W8 (.cells #[.int .i64 qL.a, .int .i64 qL.b] 38) (.cells #[.int .i64 qH.a, .int .i64 qH.b] 38)
  have m1 := (Mx.new W8 qL).keep (new1 (W8.alloc (.cells #[.int .i64 qL.a, .int .i64 qL.b] 38)) (.cells #[.int .i64 qH.a, .int .i64 qH.b] 38)) (by simp)
  have m2 := Mx.new (W8.alloc (.cells #[.int .i64 qL.a, .int .i64 qL.b] 38)) qH
  rw [show (W8.alloc (.cells #[.int .i64 qL.a, .int .i64 qL.b] 38)).heap.size = W8.heap.size + 1 by simp] at m2
  have hkk := K7.out.trans (hnn.mono K7.out.size)
  have G1 := Lib.hid (G1.out.keep hnn G1.out.lt)
  have G2 := Lib.hid (G2.out.keep hnn G2.out.lt)
  have st := (hkk.cell (p := ⟨sb, 0, none⟩) hls).trans STB.out
  obtain ⟨t0, t1, t2, t3, t4, t5, t6, t7, t8⟩ := TB.keep TBB.out hlt hkk
  have hgl := G1.out.lt
  have hgl2 := G2.out.lt
  obtain ⟨g0, g1⟩ := G1.out.cells
  obtain ⟨g2, g3⟩ := G2.out.cells
  have hnq1 := neq_same qL
  have hnq2 := neq_same qH
  rcases HALL.out with ⟨rfl, rfl, rfl, hr⟩ | ⟨rfl, hab, rfl, rfl, hr⟩ | ⟨rfl, hab, rfl, hr, hx⟩
  · have tr : decide (0 < qr) = false := decide_eq_false (by omega)
    have HR := Lib.hid hr
    clear hr HALL
    go_wp2_with fail
    clear g0 g1 g2 g3 hnq1 hnq2 st t0 t1 t2 t3 t4 t5 t6 t7 t8
    generalize hk : W8.heap.size = hb1 at m1 m2 ⊢
    generalize (W8.alloc _).alloc _ = W9 at m1 m2 hkk G1 G2 ⊢
    clear hk hnn
    have K8 := Lib.hid hkk
    clear hkk m1 m2
    refine (Go.Proofs.YtbnkkgjkhpbgiaaGreatDoor.fw.impl_room x k (by omega) (by omega) (by omega) (H1.out.below K8.out) (H2.out.below K8.out) (H3.out.below K8.out) K8.out.size).mono ?_
    rintro e W10 ⟨he, hb⟩
    rw [Qr.out] at he
    subst he
    have K9 := Lib.hid (K8.out.trans (hb.mono K8.out.size))
    clear hb
    go_wp2_with fail
    go_ret
    exact ⟨rfl, HBB.out.trans (K9.out.mono HBB.out.size)⟩
  · have tr : decide (0 < qr) = true := decide_eq_true hr
    have ta : decide (qa < qb) = true := decide_eq_true hab
    have HAB := Lib.hid hab
    clear hab
    have HR := Lib.hid hr
    clear hr HALL
    go_wp2_with fail
    clear g0 g1 g2 g3 hnq1 hnq2 st t0 t1 t2 t3 t4 t5 t6 t7 t8
    generalize hk : W8.heap.size = hb1 at m1 m2 ⊢
    generalize (W8.alloc _).alloc _ = W9 at m1 m2 hkk G1 G2 ⊢
    clear hk hnn
    have K8 := Lib.hid hkk
    clear hkk m1 m2
    refine (Go.Proofs.YtbnkkgjkhpbgiaaGreatDoor.fw.impl_room x k (by omega) (by omega) (by omega) (H1.out.below K8.out) (H2.out.below K8.out) (H3.out.below K8.out) K8.out.size).mono ?_
    rintro e W10 ⟨he, hb⟩
    rw [Qr.out] at he
    subst he
    have K9 := Lib.hid (K8.out.trans (hb.mono K8.out.size))
    clear hb
    go_wp2_with fail
    go_ret
    exact ⟨rfl, HBB.out.trans (K9.out.mono HBB.out.size)⟩
  · have tr : decide (0 < qr) = false := decide_eq_false (by omega)
    have ta : decide (qa < qb) = false := decide_eq_false (by omega)
    have HAB := Lib.hid hab
    clear hab
    have HR := Lib.hid hr
    clear hr HALL
    rcases hx with rfl | ⟨rfl, hmem⟩
    · skip
      go_wp2_with fail
      clear g0 g1 g2 g3 hnq1 hnq2 st t0 t1 t2 t3 t4 t5 t6 t7 t8
      generalize hk : W8.heap.size = hb1 at m1 m2 ⊢
      generalize (W8.alloc _).alloc _ = W9 at m1 m2 hkk G1 G2 ⊢
      clear hk hnn
      have K8 := Lib.hid hkk
      clear hkk m1 m2
      refine (Go.Proofs.YtbnkkgjkhpbgiaaGreatDoor.fw.impl_room x k (by omega) (by omega) (by omega) (H1.out.below K8.out) (H2.out.below K8.out) (H3.out.below K8.out) K8.out.size).mono ?_
      rintro e W10 ⟨he, hb⟩
      rw [Qr.out] at he
      subst he
      have K9 := Lib.hid (K8.out.trans (hb.mono K8.out.size))
      clear hb
      go_wp2_with fail
      go_ret
      exact ⟨rfl, HBB.out.trans (K9.out.mono HBB.out.size)⟩
    · have HH : Hid (hasB qH R = true) := Lib.hid (decide_eq_true (by rw [← QH.out]; exact hmem))
      clear hmem
      go_wp2_with fail
      clear g0 g1 g2 g3 hnq1 hnq2 st t0 t1 t2 t3 t4 t5 t6 t7 t8
      generalize hk : W8.heap.size = hb1 at m1 m2 ⊢
      generalize (W8.alloc _).alloc _ = W9 at m1 m2 hkk G1 G2 ⊢
      clear hk hnn
      have K8 := Lib.hid hkk
      clear hkk m1 m2
      refine (spec_hasread x qH (by omega) (by omega) (H1.out.below K8.out) (H2.out.below K8.out) K8.out.size).mono ?_
      rintro e W10 ⟨he, hb⟩
      rw [HH.out] at he
      subst he
      have K9 := Lib.hid (K8.out.trans (hb.mono K8.out.size))
      clear hb
      have st := (K9.out.cell (p := ⟨sb, 0, none⟩) hls).trans STB.out
      obtain ⟨t0, t1, t2, t3, t4, t5, t6, t7, t8⟩ := TB.keep TBB.out hlt K9.out
      go_wp2_with fail
      refine (Go.Proofs.YtbnkkgjkhpbgiaaGreatDoor.fw.impl_room x k (by omega) (by omega) (by omega) (H1.out.below K9.out) (H2.out.below K9.out) (H3.out.below K9.out) K9.out.size).mono ?_
      rintro e W11 ⟨he, hb⟩
      rw [Qr.out] at he
      subst he
      have K10 := Lib.hid (K9.out.trans (hb.mono K9.out.size))
      clear hb
      clear st t0 t1 t2 t3 t4 t5 t6 t7 t8
      go_wp2_with fail
      go_ret
      exact ⟨rfl, HBB.out.trans (K10.out.mono HBB.out.size)⟩
end Go.Proofs.YtbnkkgjkhpbgiaaGreatDoor.xc
namespace Go.Proofs.YtbnkkgjkhpbgiaaGreatDoor.fnExclusion
open Go.ChangeShapes Go.WideShapes Go.ChangeAt Go.RowKit
open Go.ChangeMaps (open_string shut_string)
open Go.Proofs.YtbnkkgjkhpbgiaaGreatDoor.cur
set_option linter.unusedVariables false
open Go.Proofs.YtbnkkgjkhpbgiaaGreatDoor.erv (Facts)
noncomputable abbrev laidWorld := Go.Proofs.YtbnkkgjkhpbgiaaGreatDoor.erv.errWorldH
theorem own : ownKnob Tryz.prog.godebug = none := by kernel_rfl
theorem laidOut : laidOutB Tryz.prog = true := by kernel_rfl
def IsRow (k : IntKind) (w : World) (a : Option Addr) (len cap : Nat) (zs : List Int) : Prop :=
  (a = none ∧ len = 0 ∧ cap = 0 ∧ zs = []) ∨
  ∃ x, a = some x ∧ len ≤ cap ∧ cap ≤ maxLen ∧ zs.length = cap ∧ (∀ i, i < zs.length → w.cell? (x.add i) = some (.int k (zs.getD i 0))) ∧ ∀ n ∈ zs, (Lit.int k n).wf = true
theorem code_of {w : World} {a : Option Addr} {len cap : Nat} {zs : List Int} (h : IsRow .u8 w a len cap zs) : CodeAt w w.heap.size a len := by
  intro j hj
  rcases h with ⟨rfl, rfl, rfl, rfl⟩ | ⟨x, rfl, hl, hm, hz, hcell, hwz⟩
  · omega
  · obtain ⟨cb, off, spot⟩ := x
    have hc := hcell j (by omega)
    have hspot : spot = none := by
      have h0 := hcell 0 (by omega)
      simpa [Addr.add] using World.cell?_spot h0
    subst hspot
    rw [Addr.add_lit] at hc
    have hmem : zs.getD j 0 ∈ zs := by
      rw [List.getD_eq_getElem?_getD, List.getElem?_eq_getElem (show j < zs.length by omega)]
      exact List.getElem_mem _
    have hb := bounds_u8 (hwz _ hmem)
    exact ⟨cb, off, _, rfl, World.block_lt_of_cell? w _ hc, hb.1, hb.2, hc⟩
theorem walk (a : Option Addr) (len cap : Nat) (zs : List Int) (w : World) (h : IsRow .u8 w a len cap zs) (hF : Facts w) :
    Calls Tryz.prog 3 #[.slice a len cap] w fun e w' => e = .returned (.bool true) ∧ Below w.heap.size w w' := by
  by_cases hbig : 1048576 < len
  · have BIG := Lib.hid (big_yes a len cap w hbig)
    clear h hF
    go_enter Tryz.func3, Tryz.ntmps3
    go_wp2_with fail
    refine BIG.out.mono ?_
    rintro e w' ⟨rfl, rfl⟩
    go_wp2_with fail
    go_ret
    exact ⟨rfl, Below.refl _ _⟩
  · exact Go.Proofs.YtbnkkgjkhpbgiaaGreatDoor.xc.core a len cap w (by omega) (code_of h) hF
def readArgs (H : Type) : List (DataW H) := [.nil]
theorem facts {W : World} (h : laidMetH Tryz.prog Rows.fnExclusionRow.laid W) : Facts W := Go.Proofs.YtbnkkgjkhpbgiaaGreatDoor.erv.facts3 h
/-! ### THE ROW -/
set_option maxRecDepth 100000 in
theorem contract (H : Type) (enc : TypeId × Value → H) (W : World) (base : Nat) (args : Array Value) (ds gs : List (DataW H)) (before : List MemPlace)
    (hval0 : ∀ (j : Nat) t v, Tryz.f3.params[j]? = some t → args[j]? = some v → Value.okWide Tryz.prog W .any base t v)
    (hW : DataW.Whole enc Tryz.prog Tryz.f3.params.toList Rows.fnExclusionSpec.vars false W args.toList ds gs before) (hL : laidMetH Tryz.prog Rows.fnExclusionRow.laid W) :
    Calls Tryz.prog 3 args W fun e W' => ∃ v, e = .returned v ∧ Rows.fnExclusionSpec.post enc Tryz.prog Tryz.f3 false true false false W args v W' := by
  have hval := hval0
  have hW' := hW
  obtain ⟨pp, qq, hA0, hV, rfl, hfz, hnd⟩ := hW
  have hA : DataW.TrodAll enc Tryz.prog W 0 (fun _ => true) true Tryz.f3.params.toList args.toList ds pp := hA0
  rw [Tryz.params3] at hA hval
  obtain ⟨v0, vs0, dd0, ds0, pp0, qq0, hargs, rfl, rfl, h0, r0⟩ := trodAll_cons hA
  obtain ⟨rfl, rfl, rfl⟩ := trodAll_nil r0
  obtain rfl : args = #[v0] := by cases args; simp_all
  have hV2 := hV
  obtain ⟨_, _, _, _, _, _, _, _, _, _, _, _, rfl, -⟩ := trodVars_two hV2
  obtain ⟨a0, len0, cap0, rfl⟩ := okWide_slice Tryz.underlying22 (hval 0 22 v0 rfl rfl)
  have k0 := h0
  have lt0 : ∀ x ∈ pp0, x.block < W.heap.size := by obtain ⟨m, hm⟩ := k0; exact DataW.trod_lt m _ _ _ hm
  obtain ⟨z0, w0⟩ : ∃ zs, IsRow .u8 W a0 len0 cap0 zs := by
    obtain ⟨fuel, hf⟩ := h0
    rcases open_ints Tryz.underlying22 Tryz.underlying5 (by kernel_rfl) hf with ⟨hcs, _⟩ | ⟨x, l, c, zs, hcs, _, hl, hm, hz, _, hcell, hwz⟩
    · simp [Value.cells] at hcs
      obtain ⟨rfl, rfl, rfl⟩ := hcs
      exact ⟨[], .inl ⟨rfl, rfl, rfl, rfl⟩⟩
    · simp [Value.cells] at hcs
      obtain ⟨rfl, rfl, rfl⟩ := hcs
      exact ⟨zs, .inr ⟨_, rfl, hl, hm, by simpa using hz, hcell, hwz⟩⟩
  clear hA0 hval0
  refine (walk a0 len0 cap0 z0 W w0 (facts hL)).mono fun e W' ⟨he, bel⟩ => ?_
  subst he
  exact ⟨_, rfl, _, _, _, [], _, _, hW', trodAll_mk1 (shut_bool Tryz.underlying4 _), (trodAll_cons_mk (Below.trod laidOut (by kernel_rfl) (of_decide_eq_true (by kernel_rfl)) k0 bel lt0) trodAll_mk0), bel.trodVars laidOut (by kernel_rfl) hV, bel.frame _, fun h => by cases h⟩

set_option maxRecDepth 100000 in
theorem laid_met (os : Os) : laidMetH Tryz.prog Rows.fnExclusionRow.laid ((laidWorld os).forCall (fun _ _ => 0) ⟨#[], #[.slice none 0 0], []⟩).memory :=
  laidMetH_of_parts (laidMet_of_run' 8 (by kernel_rfl) (by kernel_rfl)) (by kernel_rfl)
set_option maxRecDepth 100000 in
theorem reads (os : Os) {H : Type} (enc : TypeId × Value → H) : ∃ gs places, DataW.whole enc Tryz.prog ((laidWorld os).forCall (fun _ _ => 0) ⟨#[], #[.slice none 0 0], []⟩).memory Tryz.f3.params.toList Rows.fnExclusionSpec.vars false (#[.slice none 0 0] : Array Value).toList 8 = some (readArgs H, gs, places) := by
  have h : (DataW.whole enc Tryz.prog ((laidWorld os).forCall (fun _ _ => 0) ⟨#[], #[.slice none 0 0], []⟩).memory Tryz.f3.params.toList Rows.fnExclusionSpec.vars false (#[.slice none 0 0] : Array Value).toList 8).map (fun x => x.1) = some (readArgs H) := by kernel_rfl
  rcases hw : DataW.whole enc Tryz.prog ((laidWorld os).forCall (fun _ _ => 0) ⟨#[], #[.slice none 0 0], []⟩).memory Tryz.f3.params.toList Rows.fnExclusionSpec.vars false (#[.slice none 0 0] : Array Value).toList 8 with _ | ⟨a, b, c⟩
  · rw [hw] at h; cases h
  · rw [hw] at h
    simp only [Option.map_some, Option.some.injEq] at h
    subst h
    exact ⟨b, c, rfl⟩
set_option maxRecDepth 100000 in
theorem lifted (os : Os) (started : os.Started) (H : Type) (enc : TypeId × Value → H) (F : Stop.Interp) :
    ReturnsInHanded {} Tryz.checked os 3 .any ((OpenSpec.ofChange Rows.fnExclusionSpec).preRow enc Tryz.prog Tryz.f3 Rows.fnExclusionRow.domain false Rows.fnExclusionRow.laid) (((OpenSpec.ofChange Rows.fnExclusionSpec).at F).post enc Tryz.prog Tryz.f3 false true false false) := by
  obtain ⟨gs0, places, hx⟩ := reads os enc
  refine returnsInHanded_of_row (C := Tryz.checked) (s := OpenSpec.ofChange Rows.fnExclusionSpec) own started (by kernel_rfl) Tryz.func3
    (witness_row_at (enc := enc) (C := Tryz.checked) false (laidWorld os) #[.slice none 0 0] rfl (by kernel_rfl) (by kernel_rfl) (by kernel_rfl)
      (OpenSpec.preRow_of_cond 8 hx (by kernel_rfl) (fun k hk => by cases hk) (by kernel_rfl) (laid_met os))) ?_
  intro W base args ds gs before hval hW _ _ _ hL _ _
  exact contract H enc W base args ds gs before hval hW hL

theorem said : Rows.FnExclusionSaid :=
  OpenClaim.holds_of_cond 3 Tryz.f3 rfl rfl rfl rfl rfl rfl rfl ⟨rfl, rfl, rfl, rfl, rfl⟩ rfl rfl rfl rfl rfl (by kernel_rfl) Tryz.func3 (by kernel_rfl)
    (of_decide_eq_true (by kernel_rfl)) (by unfold Func.isWrapper; first | (rw [if_pos (by decide +kernel)]; kernel_rfl) | (rw [if_neg (by decide +kernel)]; exact ⟨rfl, rfl⟩))
    (fun os started H enc _ F => by rw [OpenClaim.pre_eq_preRow]; exact lifted os started H enc F)
theorem plain (f : FuncId) (fn : Func) (hf : Tryz.pinned.checked.prog.funcNamed "loop.example/g01924/laws.FnExclusion" = some f) (hfn : Tryz.pinned.checked.prog.funcs[f]? = some fn) :
    true = Tryz.pinned.checked.prog.looks [] ∧ ∀ (j : Nat) t, fn.params[j]? = some t → Tryz.pinned.checked.prog.wantsStandIn t = false := by
  obtain rfl : f = 3 := Option.some.inj ((show Tryz.prog.funcNamed "loop.example/g01924/laws.FnExclusion" = some 3 by kernel_rfl).symm.trans hf) |>.symm
  obtain rfl : fn = Tryz.f3 := (Option.some.inj (Tryz.func3.symm.trans hfn)).symm
  refine ⟨by kernel_rfl, fun j t ht => ?_⟩
  rw [Tryz.params3] at ht
  have hm : t ∈ [22] := by simpa using Array.mem_of_getElem? ht
  have hall : ([22].all fun u => !Tryz.prog.wantsStandIn u) = true := by kernel_rfl
  exact (show Tryz.prog.wantsStandIn t = false by simpa using List.all_eq_true.1 hall t hm)

/-- THE CARD -/
theorem card : Rows.FnExclusionCardSaid :=
  Claim7.holds_tied_plain_at .later [] _ _ _ _ said (fun _ h => by cases h) (by kernel_rfl) (fun _ h => by cases h) fnExclusion_row_tie rfl ⟨rfl, rfl⟩ (by kernel_rfl) rfl plain (by kernel_rfl)
#print axioms card
end Go.Proofs.YtbnkkgjkhpbgiaaGreatDoor.fnExclusion
