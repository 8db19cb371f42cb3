/- The model's l6Pair and DrawRefreshHigh: a drawn store and a drawn transaction. -/
import Derived.Test.YtdfhnngcddaccaaDrt
namespace Go.Proofs.Ytdfhnngcddaccaa.dpr
open Go.ChangeShapes Go.WideShapes Go.ChangeAt Go.RowKit
open Go.Proofs.Ytdfhnngcddaccaa.el2 Go.Proofs.Ytdfhnngcddaccaa.tx Go.Proofs.Ytdfhnngcddaccaa.ap Go.Proofs.Ytdfhnngcddaccaa.bx Go.Proofs.Ytdfhnngcddaccaa.ad Go.Proofs.Ytdfhnngcddaccaa.sf Go.Proofs.Ytdfhnngcddaccaa.dr Go.Proofs.Ytdfhnngcddaccaa.drt
open Go.Proofs.Ytdfhnngcddaccaa.cur (CurAt CodeAt Kp Only below_calls pick_calls new_calls cur_new)
open Go.Proofs.Ytdfhnngcddaccaa.vers (new2)
open Go.Proofs.Ytdfhnngcddaccaa.sl (Ver)
open Go.Proofs.Ytdfhnngcddaccaa.st (Rs)
set_option linter.unusedVariables false
set_option linter.unusedSimpArgs false
theorem cell1 {V : World} {bb : Nat} {u : Value} {p : Addr} (h : p.block ≠ bb) : World.cell? (World.setCell V ⟨bb, 0, none⟩ u) p = V.cell? p :=
  World.cell?_of_block (a := p) (((Off.refl bb V).setCell (p := ⟨bb, 0, none⟩) rfl u).block _ h)
theorem cell_d (W : World) (p : Addr) : W.drew.cell? p = W.cell? p := rfl
theorem cell1d {V : World} {bb : Nat} {u : Value} {p : Addr} (h : p.block ≠ bb) : World.cell? (World.drew (World.setCell V ⟨bb, 0, none⟩ u)) p = V.cell? p := (cell_d _ _).trans (cell1 h)
theorem put9_celld {V : World} {bb : Nat} {x : Hd} {u v : Value} {p : Addr} (h : p.block ≠ bb) : World.cell? (World.drew (World.setCell (World.setCell (World.setCell (World.setCell (World.setCell (World.setCell (World.setCell (World.setCell (World.setCell V ⟨bb, 0, none⟩ (.int .i64 x.i)) ⟨bb, 1, none⟩ (.int .i64 x.s)) ⟨bb, 2, none⟩ (.int .i64 x.t)) ⟨bb, 3, none⟩ (.int .i64 x.b)) ⟨bb, 4, none⟩ (.int .i64 x.l)) ⟨bb, 5, none⟩ (.int .i64 x.h)) ⟨bb, 6, none⟩ (.int .i64 x.c)) ⟨bb, 7, none⟩ u) ⟨bb, 8, none⟩ v)) p = V.cell? p := (cell_d _ _).trans (put9_cell h)
/-- a box of a store, to be written -/
def Sx (w : World) (b : Nat) (u : Value) : Prop := w.rowIs b 26 1 (fun _ => u)
section
variable {w w' : World} {b : Nat} {u v : Value}
theorem Sx.cell (h : Sx w b u) : w.cell? ⟨b, 0, none⟩ = some u := World.rowIs.cell h (show 0 < 1 by decide)
theorem Sx.fz (h : Sx w b u) : w.frozen? ⟨b, 0, none⟩ = false := World.rowIs.frozen h 0
theorem Sx.lt (h : Sx w b u) : b < w.heap.size := World.rowIs.lt h
theorem Sx.of_block (h : Sx w b u) (hk : w'.heap[b]? = w.heap[b]?) : Sx w' b u := World.rowIs.of_block h hk
theorem Sx.new (w : World) (u : Value) : Sx (w.alloc (.cells #[u] 26)) w.heap.size u := World.rowIs_alloc w #[u] 26 (fun _ => u) (fun i hi => by
  have : i = 0 := by simp at hi; exact hi
  subst this; rfl)
theorem Sx.put (h : Sx w b u) (v : Value) : Sx (w.setCell ⟨b, 0, none⟩ v) b v := (World.rowIs.set h 0 v).congr (fun i hi => by
  have : i = 0 := by omega
  subst this; rfl)
end
section
variable {w W W' : World} {sb rb base tb n c n2 c2 N cN : Nat} {x : Hd} {A A2 D : Option Addr} {R S : List E2} {v : Ver}
/-- the two results have been laid: what else is there stays -/
def Fin6 (w W W' : World) (sb rb : Nat) (x : Hd) (A : Option Addr) (n c : Nat) (R : List E2) (A2 : Option Addr) (n2 c2 : Nat) (S : List E2) (D : Option Addr) (N cN base : Nat) : Prop :=
  W'.cell? ⟨sb, 0, none⟩ = some (.slice D N cN) ∧ TB W' rb x (.slice A n c) (.slice A2 n2 c2) ∧ OwnT W' base (.slice A n c) n R (.slice A2 n2 c2) n2 S ∧ Below w.heap.size w W' ∧ W'.heap.size = W.heap.size ∧ ∀ k, k ≠ sb → k ≠ rb → W'.heap[k]? = W.heap[k]?
theorem fin_19 (hs : Sx W sb (.slice none 0 0)) (hz : Bx W rb ⟨0, 0, 0, 0, 0, 0, 0⟩ (.slice none 0 0) (.slice none 0 0)) (hB : OwnT W base (.slice A n c) n R (.slice A2 n2 c2) n2 S) (hbel : Below w.heap.size w W) (h1 : w.heap.size ≤ sb) (h2 : w.heap.size ≤ rb) (hne : sb ≠ rb) (h3 : rb < base) (h4 : sb < base)
    (hW : (World.setCell (World.setCell (World.setCell (World.setCell (World.setCell (World.setCell (World.setCell (World.setCell (World.setCell (World.setCell W ⟨sb, 0, none⟩ (.slice D N cN)) ⟨rb, 0, none⟩ (.int .i64 x.i)) ⟨rb, 1, none⟩ (.int .i64 x.s)) ⟨rb, 2, none⟩ (.int .i64 x.t)) ⟨rb, 3, none⟩ (.int .i64 x.b)) ⟨rb, 4, none⟩ (.int .i64 x.l)) ⟨rb, 5, none⟩ (.int .i64 x.h)) ⟨rb, 6, none⟩ (.int .i64 x.c)) ⟨rb, 7, none⟩ (.slice A n c)) ⟨rb, 8, none⟩ (.slice A2 n2 c2)) = W') : Fin6 w W W' sb rb x A n c R A2 n2 c2 S D N cN base := by
  have o1 := (Off.refl sb W).setCell (p := ⟨sb, 0, none⟩) rfl (.slice D N cN)
  have s1 := hs.put (.slice D N cN)
  have z1 := hz.of_block (o1.block rb (fun e => hne e.symm))
  have w1 := hB.off o1 h4
  have l1 := hbel.trans (o1.below h1)
  have z1s := o1.size
  generalize (World.setCell W ⟨sb, 0, none⟩ (.slice D N cN)) = W1 at o1 s1 z1 w1 l1 hW z1s
  have o2 := off_put W1 rb x (.slice A n c) (.slice A2 n2 c2)
  have z2 := z1.put x (.slice A n c) (.slice A2 n2 c2)
  rw [hW] at o2 z2
  exact ⟨(s1.of_block (o2.block sb hne)).cell, z2.tb, w1.off o2 h3, l1.trans (o2.below h2), o2.size.trans z1s, fun k k1 k2 => (o2.block k k2).trans (o1.block k k1)⟩
theorem fin_91 (hs : Sx W sb (.slice none 0 0)) (hz : Bx W rb ⟨0, 0, 0, 0, 0, 0, 0⟩ (.slice none 0 0) (.slice none 0 0)) (hB : OwnT W base (.slice A n c) n R (.slice A2 n2 c2) n2 S) (hbel : Below w.heap.size w W) (h1 : w.heap.size ≤ sb) (h2 : w.heap.size ≤ rb) (hne : sb ≠ rb) (h3 : rb < base) (h4 : sb < base)
    (hW : (World.setCell (World.setCell (World.setCell (World.setCell (World.setCell (World.setCell (World.setCell (World.setCell (World.setCell (World.setCell W ⟨rb, 0, none⟩ (.int .i64 x.i)) ⟨rb, 1, none⟩ (.int .i64 x.s)) ⟨rb, 2, none⟩ (.int .i64 x.t)) ⟨rb, 3, none⟩ (.int .i64 x.b)) ⟨rb, 4, none⟩ (.int .i64 x.l)) ⟨rb, 5, none⟩ (.int .i64 x.h)) ⟨rb, 6, none⟩ (.int .i64 x.c)) ⟨rb, 7, none⟩ (.slice A n c)) ⟨rb, 8, none⟩ (.slice A2 n2 c2)) ⟨sb, 0, none⟩ (.slice D N cN)) = W') : Fin6 w W W' sb rb x A n c R A2 n2 c2 S D N cN base := by
  have o1 := off_put W rb x (.slice A n c) (.slice A2 n2 c2)
  have z1 := hz.put x (.slice A n c) (.slice A2 n2 c2)
  have s1 := hs.of_block (o1.block sb hne)
  have w1 := hB.off o1 h3
  have l1 := hbel.trans (o1.below h2)
  have z1s := o1.size
  generalize (World.setCell (World.setCell (World.setCell (World.setCell (World.setCell (World.setCell (World.setCell (World.setCell (World.setCell W ⟨rb, 0, none⟩ (.int .i64 x.i)) ⟨rb, 1, none⟩ (.int .i64 x.s)) ⟨rb, 2, none⟩ (.int .i64 x.t)) ⟨rb, 3, none⟩ (.int .i64 x.b)) ⟨rb, 4, none⟩ (.int .i64 x.l)) ⟨rb, 5, none⟩ (.int .i64 x.h)) ⟨rb, 6, none⟩ (.int .i64 x.c)) ⟨rb, 7, none⟩ (.slice A n c)) ⟨rb, 8, none⟩ (.slice A2 n2 c2)) = W1 at o1 s1 z1 w1 l1 hW z1s
  have o2 := (Off.refl sb W1).setCell (p := ⟨sb, 0, none⟩) rfl (.slice D N cN)
  have s2 := s1.put (.slice D N cN)
  rw [hW] at o2 s2
  exact ⟨s2.cell, (z1.of_block (o2.block rb (fun e => hne e.symm))).tb, w1.off o2 h4, l1.trans (o2.below h1), o2.size.trans z1s, fun k k1 k2 => (o2.block k k1).trans (o1.block k k2)⟩
end
theorem Fin6.drew {w W W' : World} {sb rb base n c n2 c2 N cN : Nat} {x : Hd} {A A2 D : Option Addr} {R S : List E2} (h : Fin6 w W W' sb rb x A n c R A2 n2 c2 S D N cN base) : Fin6 w W W'.drew sb rb x A n c R A2 n2 c2 S D N cN base :=
  ⟨h.1, h.2.1, h.2.2.1, h.2.2.2.1.drew, h.2.2.2.2.1, h.2.2.2.2.2⟩
/-- a drawn store and a drawn transaction, the cursor beside them -/
def DP (a : Option Addr) (len cap : Nat) (w : World) (e : Ending) (w' : World) : Prop :=
  ∃ (D : Option Addr) (N cN : Nat) (C : List (List Ver)) (x : Hd) (A : Option Addr) (n c : Nat) (R : List E2) (A2 : Option Addr) (n2 c2 : Nat) (S : List E2), e = .returned (.tuple #[.pointer (some ⟨w.heap.size + 2, 0, none⟩), .agg #[.slice D N cN], txv x (.slice A n c) (.slice A2 n2 c2)]) ∧ (N ≤ 6 ∧ ∀ l ∈ C, List.length l ≤ 5) ∧ n ≤ 5 ∧ n2 ≤ 5 ∧
    (∀ W : World, w'.heap.size ≤ W.heap.size → (∀ q, w.heap.size + 3 ≤ q → q < w'.heap.size → W.heap[q]? = w'.heap[q]?) → Rs W W.heap.size D N C) ∧ OwnT w' (w.heap.size + 3) (.slice A n c) n R (.slice A2 n2 c2) n2 S ∧ CurAt w' (w.heap.size + 2) a len cap ∧ Below w.heap.size w w' ∧ w.heap.size + 3 ≤ w'.heap.size
theorem CurAt_of {w w' : World} {b : Nat} {a : Option Addr} {len cap : Nat} (h : CurAt w b a len cap) (hk : w'.heap[b]? = w.heap[b]?) : CurAt w' b a len cap := by
  obtain ⟨i, g, h0, h1, hh⟩ := h
  exact ⟨i, g, h0, h1, hk.trans hh⟩
set_option maxRecDepth 100000 in
set_option maxHeartbeats 6400000 in
theorem draw_pair (a : Option Addr) (len cap : Nat) (w : World) (hl : len ≤ 1048576) (hcode : CodeAt w w.heap.size a len) :
    Calls Try.prog 33 #[.slice a len cap] w (DP a len cap w) := by
  have HN := Lib.hid (fun W (hb : Below w.heap.size w W) => new_calls w.heap.size a len cap W hl (hcode.below (Nat.le_refl _) hb) hb.size)
  have HC := Lib.hid hcode
  clear hcode
  go_enter Try.func33, Try.ntmps33
  go_wp2_with fail
  have hb0 := new2 w (.cells #[.slice none 0 0] 26) (.cells #[.int .i64 0, .int .i64 0, .int .i64 0, .int .i64 0, .int .i64 0, .int .i64 0, .int .i64 0, .slice none 0 0, .slice none 0 0] 30)
  have zs : Sx ((w.alloc (.cells #[.slice none 0 0] 26)).alloc (.cells #[.int .i64 0, .int .i64 0, .int .i64 0, .int .i64 0, .int .i64 0, .int .i64 0, .int .i64 0, .slice none 0 0, .slice none 0 0] 30)) w.heap.size (.slice none 0 0) := (Sx.new w (.slice none 0 0)).of_block ((new1 (w.alloc (.cells #[.slice none 0 0] 26)) (.cells #[.int .i64 0, .int .i64 0, .int .i64 0, .int .i64 0, .int .i64 0, .int .i64 0, .int .i64 0, .slice none 0 0, .slice none 0 0] 30)).block w.heap.size (by simp))
  have zr := Bx.zero (w.alloc (.cells #[.slice none 0 0] 26))
  rw [show (w.alloc (.cells #[.slice none 0 0] 26)).heap.size = w.heap.size + 1 by simp] at zr
  have hs0 : ((w.alloc (.cells #[.slice none 0 0] 26)).alloc (.cells #[.int .i64 0, .int .i64 0, .int .i64 0, .int .i64 0, .int .i64 0, .int .i64 0, .int .i64 0, .slice none 0 0, .slice none 0 0] 30)).heap.size = w.heap.size + 2 := by simp
  generalize (w.alloc _).alloc _ = w0 at hb0 zs zr hs0 ⊢
  have HB0 := Lib.hid hb0
  clear hb0
  refine (HN.out w0 HB0.out).mono ?_
  rintro e W1 ⟨h, rfl, rfl⟩
  have hcur := cur_new w0 a len cap h
  have hb1 := HB0.out.alloc (by omega) (.cells #[.slice a len cap, .int .i64 0, .int .i64 h] 134)
  have hcd := HC.out.below (B' := w.heap.size) (Nat.le_refl _) hb1
  have zs1 := zs.of_block ((new1 w0 (.cells #[.slice a len cap, .int .i64 0, .int .i64 h] 134)).block w.heap.size (by omega))
  have zr1 := zr.alloc (.cells #[.slice a len cap, .int .i64 0, .int .i64 h] 134)
  have hs1 : w.heap.size + 3 ≤ (w0.alloc (.cells #[.slice a len cap, .int .i64 0, .int .i64 h] 134)).heap.size := by simp; omega
  have hs1' : (w0.alloc (.cells #[.slice a len cap, .int .i64 0, .int .i64 h] 134)).heap.size ≤ w.heap.size + 3 := by simp; omega
  simp only [hs0] at hcur ⊢
  generalize w0.alloc (.cells #[.slice a len cap, .int .i64 0, .int .i64 h] 134) = W1 at hcur hcd hb1 zs1 zr1 hs1 hs1' ⊢
  have HA := Lib.hid (fun W (hW : CurAt W (w.heap.size + 2) a len cap) (hO : Kp w.heap.size (w.heap.size + 2) W1 W) => Go.Proofs.Ytdfhnngcddaccaa.dany.draw_anyt (w.heap.size + 2) w.heap.size a len cap W hl hW (hcd.below (Nat.le_refl _) hO.bel) (by omega))
  have HQ := Lib.hid (fun W (hW : CurAt W (w.heap.size + 2) a len cap) (hO : Kp w.heap.size (w.heap.size + 2) W1 W) => once_calls (w.heap.size + 2) w.heap.size a len cap 8 W hl hW (hcd.below (Nat.le_refl _) hO.bel) (by omega) (by omega))
  have HOn := Lib.hid (fun W (hW : CurAt W (w.heap.size + 2) a len cap) (hO : Kp w.heap.size (w.heap.size + 2) W1 W) (D : Option Addr) (N cN : Nat) (C : List (List Ver)) (hN : N ≤ 6) (hS : ∀ V : World, Kp w.heap.size (w.heap.size + 2) W V → Rs V V.heap.size D N C) => Go.Proofs.Ytdfhnngcddaccaa.don.draw_on (w.heap.size + 2) w.heap.size a len cap W hl hW (hcd.below (Nat.le_refl _) hO.bel) (by omega) (D := D) (N := N) (cN := cN) (C := C) hN hS)
  have HX := Lib.hid (Go.Proofs.Ytdfhnngcddaccaa.draws.draw_spoiled (w.heap.size + 2) w.heap.size a len cap W1 hl hcur hcd (by omega))
  have HB1 := Lib.hid hb1
  have ZS1 := Lib.hid zs1
  have ZR1 := Lib.hid zr1
  have hbw : w.heap.size + 2 < W1.heap.size := hcur.lt
  clear hcur hcd hb1 zs zr zs1 zr1 HN HC HB0 hs0
  go_wp2_with fail
  refine HX.out.mono ?_
  rintro e W2 ⟨D, N, cN, C, rfl, hN, hsh, hrs, hcu2, hkp2⟩
  have HSH := Lib.hid hsh
  clear hsh
  have HRS := Lib.hid hrs
  have hz2 := hkp2.size
  have ST3 := Lib.hid (st.one_cell W2 (.slice D N cN) 26)
  have k3 := hkp2.alloc (show w.heap.size ≤ W1.heap.size by omega) (.cells #[.slice D N cN] 26)
  have kd3 := (Kp.refl w.heap.size (w.heap.size + 2) W2).alloc (show w.heap.size ≤ W2.heap.size by omega) (.cells #[.slice D N cN] 26)
  have c3 := hcu2.alloc (.cells #[.slice D N cN] 26)
  have hl3 : W2.heap.size < (W2.alloc (.cells #[.slice D N cN] 26)).heap.size := by simp
  have st3 := ST3.out
  clear hrs hcu2 hkp2 HX
  go_wp2_with fail
  generalize hsb : W2.heap.size = sb at ST3 st3 hz2 hl3 ⊢
  generalize W2.alloc _ = W3 at ST3 st3 k3 kd3 c3 hl3 ⊢
  have K3 := Lib.hid k3
  have KD3 := Lib.hid kd3
  have C3 := Lib.hid c3
  clear k3 kd3 c3 st3
  refine (HOn.out W3 C3.out K3.out D N cN C hN (fun W hW => HRS.out W (by have := (KD3.out.trans hW).size; omega) (fun q h1 h2 => (KD3.out.trans hW).gr.block q h2 (fun e => by injection e with e; omega)))).mono ?_
  rintro e W4 ⟨x, A, n, c, R, A2, n2, c2, S, rfl, hn, hn2, hown, hcu4, hkp4⟩
  have hz4 := hkp4.size
  have bo5 : Bo (W4.alloc (.cells #[.int .i64 x.i, .int .i64 x.s, .int .i64 x.t, .int .i64 x.b, .int .i64 x.l, .int .i64 x.h, .int .i64 x.c, .slice A n c, .slice A2 n2 c2] 30)) W3.heap.size W4.heap.size x A n c R A2 n2 c2 S := ⟨Bx.new W4 x _ _, hown.keep (el2.new1 W4 _), hz4⟩
  have k5 := (K3.out.trans hkp4).alloc (show w.heap.size ≤ W1.heap.size by omega) (.cells #[.int .i64 x.i, .int .i64 x.s, .int .i64 x.t, .int .i64 x.b, .int .i64 x.l, .int .i64 x.h, .int .i64 x.c, .slice A n c, .slice A2 n2 c2] 30)
  have kd5 := (KD3.out.trans hkp4).alloc (show w.heap.size ≤ W2.heap.size by omega) (.cells #[.int .i64 x.i, .int .i64 x.s, .int .i64 x.t, .int .i64 x.b, .int .i64 x.l, .int .i64 x.h, .int .i64 x.c, .slice A n c, .slice A2 n2 c2] 30)
  have c5 := hcu4.alloc (.cells #[.int .i64 x.i, .int .i64 x.s, .int .i64 x.t, .int .i64 x.b, .int .i64 x.l, .int .i64 x.h, .int .i64 x.c, .slice A n c, .slice A2 n2 c2] 30)
  have ST5 := Lib.hid (((hkp4.alloc (show w.heap.size ≤ W3.heap.size by omega) (.cells #[.int .i64 x.i, .int .i64 x.s, .int .i64 x.t, .int .i64 x.b, .int .i64 x.l, .int .i64 x.h, .int .i64 x.c, .slice A n c, .slice A2 n2 c2] 30)).cell (p := ⟨sb, 0, none⟩) (by simp only; omega) (by simp only; omega)).trans ST3.out)
  clear hown hcu4 hkp4
  go_wp2_with fail
  generalize htb : W4.heap.size = tb at bo5 hz4 ⊢
  generalize W4.alloc _ = W5 at bo5 k5 kd5 c5 ST5 ⊢
  have K5 := Lib.hid k5
  have KD5 := Lib.hid kd5
  have C5 := Lib.hid c5
  have B5 := Lib.hid bo5
  clear bo5 k5 kd5 c5 htb ST3 K3 KD3 C3
  refine (HQ.out W5 C5.out K5.out).mono ?_
  rintro e W6 ⟨y, rfl, hc6, ho6⟩
  have K6 := Lib.hid (K5.out.only ho6 (by omega))
  have KD6 := Lib.hid (KD5.out.only ho6 (by omega))
  have C6 := Lib.hid hc6
  have B6 := Lib.hid (Bo.only B5.out (by omega) ho6)
  have ST6 := Lib.hid ((World.cell?_of_block (w := W5) (a := ⟨sb, 0, none⟩) (ho6.block sb (by omega))).trans ST5.out)
  clear hc6 ho6 K5 KD5 C5 B5 ST5
  cases y
  · go_wp2_with fail
    have ZS6 := ZS1.out.of_block (K6.out.gr.block w.heap.size (by omega) (fun e => by injection e with e; omega))
    have ZR6 := ZR1.out.of_block (K6.out.gr.block (w.heap.size + 1) (by omega) (fun e => by injection e with e; omega))
    obtain ⟨t0, t1, t2, t3, t4, t5, t6, t7, t8⟩ := B6.out.bx.tb
    have st := ST6.out
    have s0 := ZS6.cell
    have g0 := ZS6.fz
    obtain ⟨z0, z1, z2, z3, z4, z5, z6, z7, z8⟩ := ZR6.tb
    have y0 := ZR6.fz 0
    have y1 := ZR6.fz 1
    have y2 := ZR6.fz 2
    have y3 := ZR6.fz 3
    have y4 := ZR6.fz 4
    have y5 := ZR6.fz 5
    have y6 := ZR6.fz 6
    have y7 := ZR6.fz 7
    have y8 := ZR6.fz 8
    have hbt := B6.out.lt
    try go_wp2_with fail
    go_region_held3 (fun w' => w'.cell? ⟨sb, 0, none⟩ = some (.slice D N cN) ∧ w'.cell? ⟨tb, 0, none⟩ = some (.int .i64 x.i) ∧ w'.cell? ⟨tb, 1, none⟩ = some (.int .i64 x.s) ∧ w'.cell? ⟨tb, 2, none⟩ = some (.int .i64 x.t) ∧ w'.cell? ⟨tb, 3, none⟩ = some (.int .i64 x.b) ∧ w'.cell? ⟨tb, 4, none⟩ = some (.int .i64 x.l) ∧ w'.cell? ⟨tb, 5, none⟩ = some (.int .i64 x.h) ∧ w'.cell? ⟨tb, 6, none⟩ = some (.int .i64 x.c) ∧ w'.cell? ⟨tb, 7, none⟩ = some (.slice A n c) ∧ w'.cell? ⟨tb, 8, none⟩ = some (.slice A2 n2 c2)) (first | ((repeat' apply And.intro) <;> first | with_reducible exact (put9_celld (by simp only; omega)).trans (by assumption) | with_reducible exact (cell1d (by simp only; omega)).trans (by assumption) | with_reducible exact (put9_cell (by simp only; omega)).trans (by assumption) | with_reducible exact (cell1 (by simp only; omega)).trans (by assumption) | with_reducible exact (put9_celld (by simp only; omega)).trans ((cell1 (by simp only; omega)).trans (by assumption)) | with_reducible exact (cell1d (by simp only; omega)).trans ((put9_cell (by simp only; omega)).trans (by assumption)) | with_reducible exact (put9_cell (by simp only; omega)).trans ((cell1 (by simp only; omega)).trans (by assumption)) | with_reducible exact (cell1 (by simp only; omega)).trans ((put9_cell (by simp only; omega)).trans (by assumption))) | go_keep) (fail)
    all_goals
      have hbel := HB1.out.trans K6.out.bel
      have hF := fun W' hW => fin_19 (W' := W') (x := x) (A := A) (n := n) (c := c) (R := R) (A2 := A2) (n2 := n2) (c2 := c2) (S := S) (D := D) (N := N) (cN := cN) ZS6 ZR6 (B6.out.own.more (show w.heap.size + 3 ≤ _ by omega)) hbel (Nat.le_refl _) (Nat.le_succ _) (by omega) (by omega) (by omega) hW
      have hG := fun W' hW => fin_91 (W' := W') (x := x) (A := A) (n := n) (c := c) (R := R) (A2 := A2) (n2 := n2) (c2 := c2) (S := S) (D := D) (N := N) (cN := cN) ZS6 ZR6 (B6.out.own.more (show w.heap.size + 3 ≤ _ by omega)) hbel (Nat.le_refl _) (Nat.le_succ _) (by omega) (by omega) (by omega) hW
      clear t0 t1 t2 t3 t4 t5 t6 t7 t8 st s0 g0 z0 z1 z2 z3 z4 z5 z6 z7 z8 y0 y1 y2 y3 y4 y5 y6 y7 y8 hbel
      try go_wp2_with fail
      generalize hW : World.setCell _ _ _ = W8x
      obtain ⟨q9, ⟨q0, q1, q2, q3, q4, q5, q6, q7, q8⟩, _⟩ := (by first | exact hF W8x hW | exact hG W8x hW : Fin6 w W6 W8x w.heap.size (w.heap.size + 1) x A n c R A2 n2 c2 S D N cN (w.heap.size + 3))
      obtain ⟨e9, ⟨e0, e1, e2, e3, e4, e5, e6, e7, e8⟩, hO, hB9, hz9, hk9⟩ := (by first | exact (hF W8x hW).drew | exact (hG W8x hW).drew : Fin6 w W6 W8x.drew w.heap.size (w.heap.size + 1) x A n c R A2 n2 c2 S D N cN (w.heap.size + 3))
      have hcur9 := CurAt_of C6.out (hk9 (w.heap.size + 2) (by omega) (by omega))
      have hrs9 : ∀ W : World, W8x.drew.heap.size ≤ W.heap.size → (∀ q, w.heap.size + 3 ≤ q → q < W8x.drew.heap.size → W.heap[q]? = W8x.drew.heap[q]?) → Rs W W.heap.size D N C := fun W hs hq => HRS.out W (by have := KD6.out.size; omega) (fun q h1 h2 => (hq q (by omega) (by have := KD6.out.size; omega)).trans ((hk9 q (by omega) (by omega)).trans (KD6.out.gr.block q h2 (fun e => by injection e with e; omega))))
      exact bodyPost_ret (v := .tuple #[.pointer (some ⟨w.heap.size + 2, 0, none⟩), .agg #[.slice D N cN], txv x (.slice A n c) (.slice A2 n2 c2)]) (by simp [results, Try.results33, go_sem, e0, e1, e2, e3, e4, e5, e6, e7, e8, e9, q0, q1, q2, q3, q4, q5, q6, q7, q8, q9]) rfl ⟨D, N, cN, C, x, A, n, c, R, A2, n2, c2, S, rfl, ⟨hN, HSH.out⟩, by omega, by omega, hrs9, hO, hcur9, hB9, by have := K6.out.size; omega⟩
  · go_wp2_with fail
    refine (HA.out W6 C6.out K6.out).mono ?_
    rintro e W7 ⟨x', A', n', c', R', A2', n2', c2', S', rfl, hn', hn2', hown, hcu7, hkp7⟩
    have hz7 := hkp7.size
    have bx7 := Bo.kp B6.out (by omega) hkp7
    have hbt6 := B6.out.lt
    have o8 := off_put W7 tb x' (.slice A' n' c') (.slice A2' n2' c2')
    have bo8 : Bo (World.setCell (World.setCell (World.setCell (World.setCell (World.setCell (World.setCell (World.setCell (World.setCell (World.setCell W7 ⟨tb, 0, none⟩ (.int .i64 x'.i)) ⟨tb, 1, none⟩ (.int .i64 x'.s)) ⟨tb, 2, none⟩ (.int .i64 x'.t)) ⟨tb, 3, none⟩ (.int .i64 x'.b)) ⟨tb, 4, none⟩ (.int .i64 x'.l)) ⟨tb, 5, none⟩ (.int .i64 x'.h)) ⟨tb, 6, none⟩ (.int .i64 x'.c)) ⟨tb, 7, none⟩ (.slice A' n' c')) ⟨tb, 8, none⟩ (.slice A2' n2' c2')) (w.heap.size + 3) tb x' A' n' c' R' A2' n2' c2' S' := ⟨bx7.bx.put x' _ _, (hown.off o8 hbt6).more (by have := K6.out.size; omega), by omega⟩
    have k8 := kp_off (K6.out.trans hkp7) (by omega) (show W1.heap.size ≤ tb by omega) o8
    have kd8 := kp_off (KD6.out.trans hkp7) (by omega) (show W2.heap.size ≤ tb by omega) o8
    have c8 := cur_off hcu7 (by omega) o8
    have ST8 := Lib.hid ((World.cell?_of_block (w := W7) (a := ⟨sb, 0, none⟩) (o8.block sb (by omega))).trans ((hkp7.cell (p := ⟨sb, 0, none⟩) (by simp only; omega) (by simp only; omega)).trans ST6.out))
    obtain ⟨t0, t1, t2, t3, t4, t5, t6, t7, t8⟩ := bx7.bx.tb
    have y0 := bx7.bx.fz 0
    have y1 := bx7.bx.fz 1
    have y2 := bx7.bx.fz 2
    have y3 := bx7.bx.fz 3
    have y4 := bx7.bx.fz 4
    have y5 := bx7.bx.fz 5
    have y6 := bx7.bx.fz 6
    have y7 := bx7.bx.fz 7
    have y8 := bx7.bx.fz 8
    clear o8 hown hcu7 hkp7 bx7
    go_wp2_with fail
    clear t0 t1 t2 t3 t4 t5 t6 t7 t8 y0 y1 y2 y3 y4 y5 y6 y7 y8
    generalize (World.setCell (World.setCell (World.setCell (World.setCell (World.setCell (World.setCell (World.setCell (World.setCell (World.setCell W7 ⟨tb, 0, none⟩ (.int .i64 x'.i)) ⟨tb, 1, none⟩ (.int .i64 x'.s)) ⟨tb, 2, none⟩ (.int .i64 x'.t)) ⟨tb, 3, none⟩ (.int .i64 x'.b)) ⟨tb, 4, none⟩ (.int .i64 x'.l)) ⟨tb, 5, none⟩ (.int .i64 x'.h)) ⟨tb, 6, none⟩ (.int .i64 x'.c)) ⟨tb, 7, none⟩ (.slice A' n' c')) ⟨tb, 8, none⟩ (.slice A2' n2' c2')) = W8 at bo8 k8 kd8 c8 ST8 ⊢
    have K8 := Lib.hid k8
    have KD8 := Lib.hid kd8
    have C8 := Lib.hid c8
    have B8 := Lib.hid bo8
    clear bo8 k8 kd8 c8 K6 KD6 C6 B6 ST6 hn hn2
    have ZS8 := ZS1.out.of_block (K8.out.gr.block w.heap.size (by omega) (fun e => by injection e with e; omega))
    have ZR8 := ZR1.out.of_block (K8.out.gr.block (w.heap.size + 1) (by omega) (fun e => by injection e with e; omega))
    obtain ⟨t0, t1, t2, t3, t4, t5, t6, t7, t8⟩ := B8.out.bx.tb
    have st := ST8.out
    have s0 := ZS8.cell
    have g0 := ZS8.fz
    obtain ⟨z0, z1, z2, z3, z4, z5, z6, z7, z8⟩ := ZR8.tb
    have y0 := ZR8.fz 0
    have y1 := ZR8.fz 1
    have y2 := ZR8.fz 2
    have y3 := ZR8.fz 3
    have y4 := ZR8.fz 4
    have y5 := ZR8.fz 5
    have y6 := ZR8.fz 6
    have y7 := ZR8.fz 7
    have y8 := ZR8.fz 8
    have hbt := B8.out.lt
    try go_wp2_with fail
    go_region_held3 (fun w' => w'.cell? ⟨sb, 0, none⟩ = some (.slice D N cN) ∧ w'.cell? ⟨tb, 0, none⟩ = some (.int .i64 x'.i) ∧ w'.cell? ⟨tb, 1, none⟩ = some (.int .i64 x'.s) ∧ w'.cell? ⟨tb, 2, none⟩ = some (.int .i64 x'.t) ∧ w'.cell? ⟨tb, 3, none⟩ = some (.int .i64 x'.b) ∧ w'.cell? ⟨tb, 4, none⟩ = some (.int .i64 x'.l) ∧ w'.cell? ⟨tb, 5, none⟩ = some (.int .i64 x'.h) ∧ w'.cell? ⟨tb, 6, none⟩ = some (.int .i64 x'.c) ∧ w'.cell? ⟨tb, 7, none⟩ = some (.slice A' n' c') ∧ w'.cell? ⟨tb, 8, none⟩ = some (.slice A2' n2' c2')) (first | ((repeat' apply And.intro) <;> first | with_reducible exact (put9_celld (by simp only; omega)).trans (by assumption) | with_reducible exact (cell1d (by simp only; omega)).trans (by assumption) | with_reducible exact (put9_cell (by simp only; omega)).trans (by assumption) | with_reducible exact (cell1 (by simp only; omega)).trans (by assumption) | with_reducible exact (put9_celld (by simp only; omega)).trans ((cell1 (by simp only; omega)).trans (by assumption)) | with_reducible exact (cell1d (by simp only; omega)).trans ((put9_cell (by simp only; omega)).trans (by assumption)) | with_reducible exact (put9_cell (by simp only; omega)).trans ((cell1 (by simp only; omega)).trans (by assumption)) | with_reducible exact (cell1 (by simp only; omega)).trans ((put9_cell (by simp only; omega)).trans (by assumption))) | go_keep) (fail)
    all_goals
      have hbel := HB1.out.trans K8.out.bel
      have hF := fun W' hW => fin_19 (W' := W') (x := x') (A := A') (n := n') (c := c') (R := R') (A2 := A2') (n2 := n2') (c2 := c2') (S := S') (D := D) (N := N) (cN := cN) ZS8 ZR8 (B8.out.own.more (show w.heap.size + 3 ≤ _ by omega)) hbel (Nat.le_refl _) (Nat.le_succ _) (by omega) (by omega) (by omega) hW
      have hG := fun W' hW => fin_91 (W' := W') (x := x') (A := A') (n := n') (c := c') (R := R') (A2 := A2') (n2 := n2') (c2 := c2') (S := S') (D := D) (N := N) (cN := cN) ZS8 ZR8 (B8.out.own.more (show w.heap.size + 3 ≤ _ by omega)) hbel (Nat.le_refl _) (Nat.le_succ _) (by omega) (by omega) (by omega) hW
      clear t0 t1 t2 t3 t4 t5 t6 t7 t8 st s0 g0 z0 z1 z2 z3 z4 z5 z6 z7 z8 y0 y1 y2 y3 y4 y5 y6 y7 y8 hbel
      try go_wp2_with fail
      generalize hW : World.setCell _ _ _ = W8x
      obtain ⟨q9, ⟨q0, q1, q2, q3, q4, q5, q6, q7, q8⟩, _⟩ := (by first | exact hF W8x hW | exact hG W8x hW : Fin6 w W8 W8x w.heap.size (w.heap.size + 1) x' A' n' c' R' A2' n2' c2' S' D N cN (w.heap.size + 3))
      obtain ⟨e9, ⟨e0, e1, e2, e3, e4, e5, e6, e7, e8⟩, hO, hB9, hz9, hk9⟩ := (by first | exact (hF W8x hW).drew | exact (hG W8x hW).drew : Fin6 w W8 W8x.drew w.heap.size (w.heap.size + 1) x' A' n' c' R' A2' n2' c2' S' D N cN (w.heap.size + 3))
      have hcur9 := CurAt_of C8.out (hk9 (w.heap.size + 2) (by omega) (by omega))
      have hrs9 : ∀ W : World, W8x.drew.heap.size ≤ W.heap.size → (∀ q, w.heap.size + 3 ≤ q → q < W8x.drew.heap.size → W.heap[q]? = W8x.drew.heap[q]?) → Rs W W.heap.size D N C := fun W hs hq => HRS.out W (by have := KD8.out.size; omega) (fun q h1 h2 => (hq q (by omega) (by have := KD8.out.size; omega)).trans ((hk9 q (by omega) (by omega)).trans (KD8.out.gr.block q h2 (fun e => by injection e with e; omega))))
      exact bodyPost_ret (v := .tuple #[.pointer (some ⟨w.heap.size + 2, 0, none⟩), .agg #[.slice D N cN], txv x' (.slice A' n' c') (.slice A2' n2' c2')]) (by simp [results, Try.results33, go_sem, e0, e1, e2, e3, e4, e5, e6, e7, e8, e9, q0, q1, q2, q3, q4, q5, q6, q7, q8, q9]) rfl ⟨D, N, cN, C, x', A', n', c', R', A2', n2', c2', S', rfl, ⟨hN, HSH.out⟩, by omega, by omega, hrs9, hO, hcur9, hB9, by have := K8.out.size; omega⟩
end Go.Proofs.Ytdfhnngcddaccaa.dpr
