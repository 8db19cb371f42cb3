/- The model's l5On: a drawn transaction whose reads are versions of a store, in memory of its own. -/
import Derived.Test.YtdfhnngcddaccaaSf
import Derived.Deep.CutRange
namespace Go.Proofs.Ytdfhnngcddaccaa.don
open Go.ChangeShapes Go.WideShapes Go.ChangeAt Go.RowKit
open Go.Proofs.Ytdfhnngcddaccaa.el2 Go.Proofs.Ytdfhnngcddaccaa.tx Go.Proofs.Ytdfhnngcddaccaa.ap Go.Proofs.Ytdfhnngcddaccaa.bx Go.Proofs.Ytdfhnngcddaccaa.ad Go.Proofs.Ytdfhnngcddaccaa.tk Go.Proofs.Ytdfhnngcddaccaa.sf
open Go.Proofs.Ytdfhnngcddaccaa.cur (CurAt CodeAt Kp Only below_calls pick_calls)
open Go.Proofs.Ytdfhnngcddaccaa.sl (Ver)
open Go.Proofs.Ytdfhnngcddaccaa.st (Rs)
set_option linter.unusedVariables false
set_option linter.unusedSimpArgs false
/-- a drawn transaction -/
def DO (B b : Nat) (a : Option Addr) (len cap : Nat) (w : World) (e : Ending) (w' : World) : Prop :=
  ∃ x A n c R A2 n2 c2 S, e = .returned (txv x (.slice A n c) (.slice A2 n2 c2)) ∧ n ≤ 4 ∧ n2 ≤ 4 ∧ OwnT w' w.heap.size (.slice A n c) n R (.slice A2 n2 c2) n2 S ∧ CurAt w' b a len cap ∧ Kp B b w w'
/-- what a region reads that draws 'v := l[j]': the store's box, the chain's slice, the chain's versions -/
abbrev SS (sb : Nat) (sv : Value) (b2 q b3 o3 n c : Nat) (vv : Nat → Ver) (W : World) : Prop :=
  W.cell? ⟨sb, 0, none⟩ = some sv ∧ W.cell? ⟨b2, q, none⟩ = some (.slice (some ⟨b3, o3, none⟩) n c) ∧
  (∀ i, i < n → W.cell? ⟨b3, o3 + i * 5, none⟩ = some (.int .i64 (vv i).a)) ∧ (∀ i, i < n → W.cell? ⟨b3, o3 + i * 5 + 1, none⟩ = some (.int .i64 (vv i).b)) ∧ (∀ i, i < n → W.cell? ⟨b3, o3 + i * 5 + 2, none⟩ = some (.int .i64 (vv i).c)) ∧ (∀ i, i < n → W.cell? ⟨b3, o3 + i * 5 + 3, none⟩ = some (.int .i64 (vv i).d)) ∧ (∀ i, i < n → W.cell? ⟨b3, o3 + i * 5 + 4, none⟩ = some (.int .i64 (vv i).e))
theorem SS.of {sb : Nat} {sv : Value} {b2 q b3 o3 n c : Nat} {vv : Nat → Ver} {W W' : World} (h : SS sb sv b2 q b3 o3 n c vv W) (h1 : W'.heap[sb]? = W.heap[sb]?) (h2 : W'.heap[b2]? = W.heap[b2]?) (h3 : W'.heap[b3]? = W.heap[b3]?) : SS sb sv b2 q b3 o3 n c vv W' :=
  ⟨(World.cell?_of_block (w := W) (a := ⟨sb, 0, none⟩) h1).trans h.1, (World.cell?_of_block (w := W) (a := ⟨b2, q, none⟩) h2).trans h.2.1, fun i hi => (World.cell?_of_block (w := W) (a := ⟨b3, o3 + i * 5, none⟩) h3).trans (h.2.2.1 i hi), fun i hi => (World.cell?_of_block (w := W) (a := ⟨b3, o3 + i * 5 + 1, none⟩) h3).trans (h.2.2.2.1 i hi), fun i hi => (World.cell?_of_block (w := W) (a := ⟨b3, o3 + i * 5 + 2, none⟩) h3).trans (h.2.2.2.2.1 i hi), fun i hi => (World.cell?_of_block (w := W) (a := ⟨b3, o3 + i * 5 + 3, none⟩) h3).trans (h.2.2.2.2.2.1 i hi), fun i hi => (World.cell?_of_block (w := W) (a := ⟨b3, o3 + i * 5 + 4, none⟩) h3).trans (h.2.2.2.2.2.2 i hi)⟩
theorem SS.alloc {sb : Nat} {sv : Value} {b2 q b3 o3 n c : Nat} {vv : Nat → Ver} {W : World} (h : SS sb sv b2 q b3 o3 n c vv W) (o : Obj) (h1 : sb < W.heap.size) (h2 : b2 < W.heap.size) (h3 : b3 < W.heap.size) : SS sb sv b2 q b3 o3 n c vv (W.alloc o) :=
  h.of ((new1 W o).block _ h1) ((new1 W o).block _ h2) ((new1 W o).block _ h3)
theorem SS.off {sb : Nat} {sv : Value} {b2 q b3 o3 n c g : Nat} {vv : Nat → Ver} {W W' : World} (h : SS sb sv b2 q b3 o3 n c vv W) (ho : Off g W W') (h1 : sb ≠ g) (h2 : b2 ≠ g) (h3 : b3 ≠ g) : SS sb sv b2 q b3 o3 n c vv W' :=
  h.of (ho.block _ h1) (ho.block _ h2) (ho.block _ h3)
theorem SS.make {sb : Nat} {sv : Value} {b2 q b3 o3 n c B : Nat} {l : List Ver} {W : World} (h1 : W.cell? ⟨sb, 0, none⟩ = some sv) (h2 : W.cell? ⟨b2, q, none⟩ = some (.slice (some ⟨b3, o3, none⟩) n c)) (hv : Go.Proofs.Ytdfhnngcddaccaa.sl.Vs W B (some ⟨b3, o3, none⟩) n l) : SS sb sv b2 q b3 o3 n c (fun i => l.getD i default) W := by
  have key : ∀ i, i < n → Go.Proofs.Ytdfhnngcddaccaa.sl.At W b3 (o3 + i * 5) (l.getD i default) := by
    intro i hi
    obtain ⟨b', o', y, e, _, hx, hy⟩ := Go.Proofs.Ytdfhnngcddaccaa.sl.Vs.at_ hv hi
    injection e with e
    injection e with e1 e2
    subst e1 e2
    have : l.getD i default = y := by simp [List.getD, hx]
    rw [this]
    exact hy
  exact ⟨h1, h2, fun i hi => (key i hi).1, fun i hi => (key i hi).2.1, fun i hi => (key i hi).2.2.1, fun i hi => (key i hi).2.2.2.1, fun i hi => (key i hi).2.2.2.2⟩
section
variable {w W6 W7 : World} {B b len cap sb rb tb n c : Nat} {a : Option Addr} {sv : Value} {x : Hd} {A : Option Addr} {R : List E2}
/-- what is known behind 'v := l[j]' -/
def VB (w : World) (B b : Nat) (a : Option Addr) (len cap sb rb tb : Nat) (sv : Value) (x : Hd) (A : Option Addr) (n c : Nat) (R : List E2) (lo : Nat) (p : Value) (wx : World) : Prop :=
  ∃ (vb : Nat) (cr : Int), p = .pointer (some ⟨vb, 0, none⟩) ∧ wx.cell? ⟨vb, 2, none⟩ = some (.int .i64 cr) ∧ lo ≤ vb ∧ vb < wx.heap.size ∧ SF w B b a len cap sb rb sv wx ∧ Bo wx w.heap.size tb x A n c R none 0 0 []
theorem late5 (y : Ver) (hbw : b < w.heap.size) (hB : B ≤ b) (S6 : SF w B b a len cap sb rb sv W6) (B6 : Bo W6 w.heap.size tb x A n c R none 0 0 []) (ho : Only b W6.drew W7) (hc : CurAt W7 b a len cap) :
    VB w B b a len cap sb rb tb sv x A n c R W6.heap.size (.pointer (some ⟨W6.heap.size, 0, none⟩)) (W7.alloc (.cells #[.int .i64 y.a, .int .i64 y.b, .int .i64 y.c, .int .i64 y.d, .int .i64 y.e] 34)) := by
  have h7 : Only b W6 W7 := ⟨ho.os, ho.tape, ho.output, ho.size, ho.block⟩
  have hz : W7.heap.size = W6.heap.size := h7.size
  have hv := ch.atFlat (ch.boxed W7 y 34)
  rw [hz] at hv
  exact ⟨W6.heap.size, y.c, rfl, hv.2.2.1, Nat.le_refl _, by simp; omega, (S6.only hbw hB h7 hc).grown (by omega) (new1 W7 _), (Bo.only B6 hbw h7).keep (new1 W7 _)⟩
theorem early5 (y : Ver) (hbw : b < w.heap.size) (hB : B ≤ b) (hs : sb < W6.heap.size) (hr : rb < W6.heap.size) (S6 : SF w B b a len cap sb rb sv W6) (B6 : Bo W6 w.heap.size tb x A n c R none 0 0 []) (hk : w.heap.size ≤ W6.heap.size) (ho : Only b ((W6.alloc (.cells #[.int .i64 0, .int .i64 0, .int .i64 0, .int .i64 0, .int .i64 0] 34)).drew) W7) (hc : CurAt W7 b a len cap) (hzz : W7.heap[W6.heap.size]? = some (.cells #[.int .i64 0, .int .i64 0, .int .i64 0, .int .i64 0, .int .i64 0] 34 (0, 0))) :
    VB w B b a len cap sb rb tb sv x A n c R W6.heap.size (.pointer (some ⟨W6.heap.size, 0, none⟩)) (World.setCell (World.setCell (World.setCell (World.setCell (World.setCell W7 ⟨W6.heap.size, 0, none⟩ (.int .i64 y.a)) ⟨W6.heap.size, 1, none⟩ (.int .i64 y.b)) ⟨W6.heap.size, 2, none⟩ (.int .i64 y.c)) ⟨W6.heap.size, 3, none⟩ (.int .i64 y.d)) ⟨W6.heap.size, 4, none⟩ (.int .i64 y.e)) := by
  have hn := new1 W6 (.cells #[.int .i64 0, .int .i64 0, .int .i64 0, .int .i64 0, .int .i64 0] 34)
  have h7 : Only b (W6.alloc (.cells #[.int .i64 0, .int .i64 0, .int .i64 0, .int .i64 0, .int .i64 0] 34)) W7 := ⟨ho.os, ho.tape, ho.output, ho.size, ho.block⟩
  have hz : W7.heap.size = W6.heap.size + 1 := by rw [h7.size]; simp
  have s7 := (S6.grown (by omega) hn).only hbw hB h7 hc
  have b7 := Bo.only (B6.keep hn) hbw h7
  have h5 := off5 W7 W6.heap.size (.int .i64 y.a) (.int .i64 y.b) (.int .i64 y.c) (.int .i64 y.d) (.int .i64 y.e)
  obtain ⟨o1, o2⟩ := Bo.old B6
  have hrow : ∃ f, W7.rowIs W6.heap.size 34 5 f := ⟨fun _ => .int .i64 0, _, hzz, rfl, fun i hi => by
    have : i = 0 ∨ i = 1 ∨ i = 2 ∨ i = 3 ∨ i = 4 := by omega
    rcases this with rfl | rfl | rfl | rfl | rfl <;> rfl⟩
  obtain ⟨f, hf⟩ := hrow
  have hf5 := ((((hf.set 0 (.int .i64 y.a)).set 1 (.int .i64 y.b)).set 2 (.int .i64 y.c)).set 3 (.int .i64 y.d)).set 4 (.int .i64 y.e)
  exact ⟨W6.heap.size, y.c, rfl, (hf5.cell (show 2 < 5 by omega)).trans rfl, Nat.le_refl _, by rw [h5.size]; omega, s7.off hbw (by omega) hk (by omega) (by omega) h5, Bo.off b7 h5 (by have := B6.lt; omega) (fun g hg => by have := o1 g hg; omega) (fun g hg => by have := o2 g hg; omega)⟩
end
section
variable {w W : World} {B b len cap sb rb tb n c n2 c2 : Nat} {a : Option Addr} {sv : Value} {x : Hd} {A A2 : Option Addr} {R S : List E2}
/-- the value of the box goes into the result's box -/
theorem fin9 (hbw : b < w.heap.size) (hB : B ≤ w.heap.size) (S6 : SF w B b a len cap sb rb sv W) (B6 : Bo W w.heap.size tb x A n c R A2 n2 c2 S) (hrt : rb ≠ tb) {W' : World} (hW : World.setCell (World.setCell (World.setCell (World.setCell (World.setCell (World.setCell (World.setCell (World.setCell (World.setCell W ⟨rb, 0, none⟩ (.int .i64 x.i)) ⟨rb, 1, none⟩ (.int .i64 x.s)) ⟨rb, 2, none⟩ (.int .i64 x.t)) ⟨rb, 3, none⟩ (.int .i64 x.b)) ⟨rb, 4, none⟩ (.int .i64 x.l)) ⟨rb, 5, none⟩ (.int .i64 x.h)) ⟨rb, 6, none⟩ (.int .i64 x.c)) ⟨rb, 7, none⟩ (.slice A n c)) ⟨rb, 8, none⟩ (.slice A2 n2 c2) = W') :
    TB W' rb x (.slice A n c) (.slice A2 n2 c2) ∧ OwnT W' w.heap.size (.slice A n c) n R (.slice A2 n2 c2) n2 S ∧ CurAt W' b a len cap ∧ Kp B b w W' := by
  have ho := off_put W rb x (.slice A n c) (.slice A2 n2 c2)
  have hp := (S6.rz.put x (.slice A n c) (.slice A2 n2 c2)).tb
  rw [hW] at ho hp
  have hg : W.grownBy W' (some rb) := ⟨ho.os, ho.tape, ho.output, by rw [ho.size]; exact Nat.le_refl _, fun k _ hk => ho.block k (fun e => hk (by rw [e]))⟩
  have hr1 := S6.r1
  obtain ⟨cb, hcb⟩ := bx_heap S6.rz
  have hb := Bo.off B6 ho hrt (fun g hg1 => by obtain ⟨_, cur, hh⟩ := own_block B6.own.1 hg1; exact type_ne hh hcb (by decide)) (fun g hg2 => by obtain ⟨_, cur, hh⟩ := own_block B6.own.2 hg2; exact type_ne hh hcb (by decide))
  exact ⟨hp, hb.own, S6.cur.grown hg (fun e => by injection e with e; omega), S6.kp.grown hg hB (fun k e => by injection e with e; omega)⟩
theorem list5 {g : Nat} {t : TypeId} (h : W.heap[g]? = some (.cells #[.int .i64 (-1), .int .i64 0, .int .i64 7, .int .i64 50, .int .i64 99] t (0, 0))) : ∀ j, j < 5 → ∃ v : Int, W.cell? ⟨g, j, none⟩ = some (.int .i64 v) ∧ -1 ≤ v ∧ v ≤ 99 := by
  intro j hj
  have : j = 0 ∨ j = 1 ∨ j = 2 ∨ j = 3 ∨ j = 4 := by omega
  rcases this with rfl | rfl | rfl | rfl | rfl
  · exact ⟨-1, by simp [World.cell?, h], by omega, by omega⟩
  · exact ⟨0, by simp [World.cell?, h], by omega, by omega⟩
  · exact ⟨7, by simp [World.cell?, h], by omega, by omega⟩
  · exact ⟨50, by simp [World.cell?, h], by omega, by omega⟩
  · exact ⟨99, by simp [World.cell?, h], by omega, by omega⟩
end
set_option maxRecDepth 100000 in
set_option maxHeartbeats 6400000 in
theorem draw_on (b B : Nat) (a : Option Addr) (len cap : Nat) (w : World) (hl : len ≤ 1048576) (hc : CurAt w b a len cap) (hcode : CodeAt w B a len) (hB : B ≤ b) {D : Option Addr} {N cN : Nat} {C : List (List Ver)} (hN : N ≤ 6) (hS : ∀ W : World, Kp B b w W → Rs W W.heap.size D N C) :
    Calls Try.prog 62 #[.pointer (some ⟨b, 0, none⟩), .agg #[.slice D N cN]] w (DO B b a len cap w) := by
  have hbw := hc.lt
  have hBw : B ≤ w.heap.size := by omega
  have HK := Lib.hid (fun (n : Int) (hn : 0 < n) W (hW : CurAt W b a len cap) (hO : Kp B b w W) => below_calls b B a len cap n W hl hW (hcode.below (Nat.le_refl _) hO.bel) hB hn)
  have HP := Lib.hid (fun (g n : Nat) (lo hi : Int) W (hW : CurAt W b a len cap) (hO : Kp B b w W) (h0 : 0 < n) (hn : n ≤ 1048576) (hg : g ≠ b) (hlist : ∀ j, j < n → ∃ v : Int, W.cell? ⟨g, j, none⟩ = some (.int .i64 v) ∧ lo ≤ v ∧ v ≤ hi) => pick_calls b B g a len cap n lo hi W hl hW (hcode.below (Nat.le_refl _) hO.bel) hB h0 hn hg hlist)
  have HS := Lib.hid hS
  have HC := Lib.hid hc
  clear hc hcode hS
  have hk0 : Kp B b w ((w.alloc (.cells #[.slice D N cN] 26)).alloc (.cells #[.int .i64 0, .int .i64 0, .int .i64 0, .int .i64 0, .int .i64 0, .int .i64 0, .int .i64 0, .slice none 0 0, .slice none 0 0] 30)) := ((Kp.refl B b w).alloc hBw _).alloc hBw _
  have sf0 : SF w B b a len cap w.heap.size (w.heap.size + 1) (.slice D N cN) ((w.alloc (.cells #[.slice D N cN] 26)).alloc (.cells #[.int .i64 0, .int .i64 0, .int .i64 0, .int .i64 0, .int .i64 0, .int .i64 0, .int .i64 0, .slice none 0 0, .slice none 0 0] 30)) :=
    ⟨hk0, (HC.out.alloc _).alloc _, by simp, by have := Bx.zero (w.alloc (.cells #[.slice D N cN] 26)); simpa using this, Nat.le_refl _, by simp; omega, by omega⟩
  have hz0 : ((w.alloc (.cells #[.slice D N cN] 26)).alloc (.cells #[.int .i64 0, .int .i64 0, .int .i64 0, .int .i64 0, .int .i64 0, .int .i64 0, .int .i64 0, .slice none 0 0, .slice none 0 0] 30)).heap.size = w.heap.size + 2 := by simp
  clear hk0
  go_enter Try.func62, Try.ntmps62
  go_wp2_with fail
  generalize (w.alloc _).alloc _ = W0 at sf0 hz0 ⊢
  have S0 := Lib.hid sf0
  clear sf0
  refine (HK.out 6 (by omega) W0 S0.out.cur S0.out.kp).mono ?_
  rintro e W1 ⟨q1, rfl, ha1, hb1, hc1, ho1⟩
  have S1 := Lib.hid (S0.out.only hbw hB ho1 hc1)
  have hz1 : W1.heap.size = w.heap.size + 2 := by rw [ho1.size]; exact hz0
  clear hc1 ho1
  go_wp2_with fail
  refine (HK.out 4 (by omega) W1 S1.out.cur S1.out.kp).mono ?_
  rintro e W2 ⟨q2, rfl, ha2, hb2, hc2, ho2⟩
  have S2 := Lib.hid (S1.out.only hbw hB ho2 hc2)
  have hz2 : W2.heap.size = w.heap.size + 2 := by rw [ho2.size]; exact hz1
  clear hc2 ho2
  go_wp2_with fail
  refine (HK.out 8 (by omega) W2 S2.out.cur S2.out.kp).mono ?_
  rintro e W3 ⟨q3, rfl, ha3, hb3, hc3, ho3⟩
  have S3 := Lib.hid (S2.out.only hbw hB ho3 hc3)
  have hz3 : W3.heap.size = w.heap.size + 2 := by rw [ho3.size]; exact hz2
  clear hc3 ho3
  go_wp2_with fail
  have bo4 : Bo (W3.alloc (.cells #[.int .i64 (1 + q1), .int .i64 (1 + q2), .int .i64 1, .int .i64 q3, .int .i64 0, .int .i64 1000, .int .i64 0, .slice none 0 0, .slice none 0 0] 30)) w.heap.size (w.heap.size + 2) ⟨1 + q1, 1 + q2, 1, q3, 0, 1000, 0⟩ none 0 0 [] none 0 0 [] := ⟨by have := Bx.new W3 ⟨1 + q1, 1 + q2, 1, q3, 0, 1000, 0⟩ (.slice none 0 0) (.slice none 0 0); rw [hz3] at this; exact this, ⟨World.ownsRow_nil _ _ _ _, World.ownsRow_nil _ _ _ _⟩, by omega⟩
  have s4 := S3.out.grown hBw (new1 W3 (.cells #[.int .i64 (1 + q1), .int .i64 (1 + q2), .int .i64 1, .int .i64 q3, .int .i64 0, .int .i64 1000, .int .i64 0, .slice none 0 0, .slice none 0 0] 30))
  have hz4 : (W3.alloc (.cells #[.int .i64 (1 + q1), .int .i64 (1 + q2), .int .i64 1, .int .i64 q3, .int .i64 0, .int .i64 1000, .int .i64 0, .slice none 0 0, .slice none 0 0] 30)).heap.size = W3.heap.size + 1 := by simp
  generalize W3.alloc _ = W4 at bo4 s4 hz4 ⊢
  have S4 := Lib.hid s4
  have B4 := Lib.hid bo4
  clear bo4 s4
  refine (HK.out 4 (by omega) W4 S4.out.cur S4.out.kp).mono ?_
  rintro e W5 ⟨q4, rfl, ha4, hb4, hc5, ho5⟩
  have S5 := Lib.hid (S4.out.only hbw hB ho5 hc5)
  have B5 := Lib.hid (Bo.only B4.out hbw ho5)
  have hz5 : W5.heap.size = W4.heap.size := ho5.size
  obtain ⟨k4, rfl⟩ := Int.eq_ofNat_of_zero_le ha4
  clear hc5 ho5
  go_wp2_with fail
  go_loopw [6, 7, 8] (fun i _ _ wr => ∃ (k n c : Nat) (x : Hd) (A : Option Addr) (R : List E2), i = .int .i64 k ∧ n + k ≤ 3 ∧ SF w B b a len cap w.heap.size (w.heap.size + 1) (.slice D N cN) wr ∧ Bo wr w.heap.size (w.heap.size + 2) x A n c R none 0 0 []) (fun i _ _ _ => (intOf i).toNat)
  case atStart => exact ⟨k4, 0, 0, _, none, [], rfl, by omega, S5.out, B5.out⟩
  case round =>
    obtain ⟨k, n, c, x, A, R, rfl, hnk, hsf, hbo⟩ := hrel
    have S5 := Lib.hid hsf
    have B5 := Lib.hid hbo
    clear hsf hbo
    by_cases hk : 0 < k
    · have tk : decide ((0 : Int) < (k : Int)) = true := decide_eq_true (by omega)
      go_wp2_with fail
      refine (HK.out 6 (by omega) wr S5.out.cur S5.out.kp).mono ?_
      rintro e W6 ⟨q6, rfl, ha6, hb6, hc6, ho6⟩
      have S6 := Lib.hid (S5.out.only hbw hB ho6 hc6)
      have B6 := Lib.hid (Bo.only B5.out hbw ho6)
      obtain ⟨j, rfl⟩ := Int.eq_ofNat_of_zero_le ha6
      clear hc6 ho6
      have c0 := S6.out.st
      by_cases hj : j < N
      · obtain ⟨b2, o2, l, A', n', c', rfl, hb2, hlx, d0, hn', hv⟩ := (HS.out W6 S6.out.kp).at_ hj
        have hjN : (j : Int) < (N : Int) := by omega
        have tj : decide ((j : Int) < (N : Int)) = true := decide_eq_true hjN
        have HV := Lib.hid hv
        clear hv hlx
        by_cases hn0 : 0 < n'
        · have tn : decide ((0 : Int) < (n' : Int)) = true := decide_eq_true (by omega)
          obtain ⟨b3, o3, e3, hb3, hx3⟩ := HV.out.2 hn0
          subst e3
          obtain ⟨b2', o2', l', A'', n'', c'', e, hbb, hll, dd, hnn, hvv⟩ := (HS.out _ (S6.out.kp.only (wipe_only W6 b) hB)).at_ hj
          injection e with e
          injection e with e1 e2
          subst e1 e2
          have hnb2 : b2 ≠ b := ne_of_wiped S6.out.cur dd
          have dd2 := (World.cell?_of_block (w := W6) (a := ⟨b2, o2 + j, none⟩) ((wipe_only W6 b).block b2 hnb2)).symm.trans dd
          rw [d0] at dd2
          injection dd2 with dd2
          injection dd2 with g1 g2 g3
          subst g1 g2
          have hnb3 : b3 ≠ b := by
            obtain ⟨b9, o9, y9, e9, _, _, z0, _⟩ := hvv.at_ hn0
            injection e9 with e9
            injection e9 with e91 e92
            subst e91
            exact ne_of_wiped S6.out.cur z0
          clear dd hvv hll hnn hbb hx3
          go_wp2_with fail
          go_cut [8] from 21 to 69 (fun p wx => VB w B b a len cap w.heap.size (w.heap.size + 1) (w.heap.size + 2) (.slice (some ⟨b2, o2, none⟩) N cN) x A n c R W6.heap.size p wx)
          case first =>
            have hs6 := S6.out.s2
            have hr6 := S6.out.rz.lt
            have hbt6 := B6.out.lt
            have hcl6 := S6.out.cur.lt
            obtain ⟨vv, hvv2⟩ : ∃ vv : Nat → Ver, SS w.heap.size (.slice (some ⟨b2, o2, none⟩) N cN) b2 (o2 + j) b3 o3 n' c' vv W6 := ⟨_, SS.make c0 d0 HV.out⟩
            have HG := Lib.hid hvv2
            have hS6 := hvv2
            clear hvv2
            clear c0 d0
            have hS6d : SS w.heap.size (.slice (some ⟨b2, o2, none⟩) N cN) b2 (o2 + j) b3 o3 n' c' vv W6.drew := hS6
            have hS6a := SS.alloc hS6 (.cells #[.int .i64 0, .int .i64 0, .int .i64 0, .int .i64 0, .int .i64 0] 34) S6.out.s2 hb2 hb3
            have hS6ad : SS w.heap.size (.slice (some ⟨b2, o2, none⟩) N cN) b2 (o2 + j) b3 o3 n' c' vv ((W6.alloc (.cells #[.int .i64 0, .int .i64 0, .int .i64 0, .int .i64 0, .int .i64 0] 34)).drew) := hS6a
            go_region_held3 (fun w' => w'.cell? ⟨w.heap.size, 0, none⟩ = some (.slice (some ⟨b2, o2, none⟩) N cN) ∧ w'.cell? ⟨b2, o2 + j, none⟩ = some (.slice (some ⟨b3, o3, none⟩) n' c') ∧ (∀ i, i < n' → w'.cell? ⟨b3, o3 + i * 5, none⟩ = some (.int .i64 (vv i).a)) ∧ (∀ i, i < n' → w'.cell? ⟨b3, o3 + i * 5 + 1, none⟩ = some (.int .i64 (vv i).b)) ∧ (∀ i, i < n' → w'.cell? ⟨b3, o3 + i * 5 + 2, none⟩ = some (.int .i64 (vv i).c)) ∧ (∀ i, i < n' → w'.cell? ⟨b3, o3 + i * 5 + 3, none⟩ = some (.int .i64 (vv i).d)) ∧ (∀ i, i < n' → w'.cell? ⟨b3, o3 + i * 5 + 4, none⟩ = some (.int .i64 (vv i).e))) (first | with_reducible exact hS6d | with_reducible exact hS6a | with_reducible exact hS6ad | with_reducible exact hS7o | with_reducible exact hS7v | with_reducible exact hS7a | with_reducible exact hS7) (first | (go_at_call 34; have hcp : CurAt W6.drew b a len cap := S6.out.cur; (with_reducible refine (HK.out (n' : Int) (by omega) W6.drew hcp S6.out.kp.drew).mono ?_); rintro e W7 ⟨q7, rfl, ha7, hb7, hc7, ho7⟩; obtain ⟨j7, rfl⟩ := Int.eq_ofNat_of_zero_le ha7; have hj7 : (j7 : Int) < (n' : Int) := hb7; have hj7n : j7 < n' := (by omega); have hfr : ∀ q, q ≠ b → q < W6.heap.size → W7.heap[q]? = W6.heap[q]? := fun q hq _ => ho7.block q hq; have hS7 := HG.out.of (hfr w.heap.size (by omega) S6.out.s2) (hfr b2 hnb2 hb2) (hfr b3 hnb3 hb3); have hz7 : W7.heap.size = W6.heap.size := ho7.size; have hb37 : b3 < W7.heap.size := (by omega); have hS7a := SS.alloc hS7 (.cells #[.int .i64 0, .int .i64 0, .int .i64 0, .int .i64 0, .int .i64 0] 34) (by omega) (by omega) (by omega); have hS7v := SS.alloc hS7 (.cells #[.int .i64 (vv j7).a, .int .i64 (vv j7).b, .int .i64 (vv j7).c, .int .i64 (vv j7).d, .int .i64 (vv j7).e] 34) (by omega) (by omega) (by omega)) | (go_at_call 34; have hkz := (S6.out.kp.alloc hBw (.cells #[.int .i64 0, .int .i64 0, .int .i64 0, .int .i64 0, .int .i64 0] 34)).drew; have hcz : CurAt ((W6.alloc (.cells #[.int .i64 0, .int .i64 0, .int .i64 0, .int .i64 0, .int .i64 0] 34)).drew) b a len cap := S6.out.cur.alloc (.cells #[.int .i64 0, .int .i64 0, .int .i64 0, .int .i64 0, .int .i64 0] 34); (with_reducible refine (HK.out (n' : Int) (by omega) ((W6.alloc (.cells #[.int .i64 0, .int .i64 0, .int .i64 0, .int .i64 0, .int .i64 0] 34)).drew) hcz hkz).mono ?_); rintro e W7 ⟨q7, rfl, ha7, hb7, hc7, ho7⟩; have hnw := el2.new1 W6 (.cells #[.int .i64 0, .int .i64 0, .int .i64 0, .int .i64 0, .int .i64 0] 34); obtain ⟨j7, rfl⟩ := Int.eq_ofNat_of_zero_le ha7; have hj7 : (j7 : Int) < (n' : Int) := hb7; have hj7n : j7 < n' := (by omega); have hfr : ∀ q, q ≠ b → q < W6.heap.size → W7.heap[q]? = W6.heap[q]? := fun q hq hq2 => (ho7.block q hq).trans (hnw.block q hq2); have hS7 := HG.out.of (hfr w.heap.size (by omega) S6.out.s2) (hfr b2 hnb2 hb2) (hfr b3 hnb3 hb3); have hzz : W7.heap[W6.heap.size]? = some (.cells #[.int .i64 0, .int .i64 0, .int .i64 0, .int .i64 0, .int .i64 0] 34 (0, 0)) := (ho7.block W6.heap.size (by have := S6.out.cur.lt; omega)).trans (heap_alloc_new W6 _); have p0 : W7.cell? ⟨W6.heap.size, 0, none⟩ = some (.int .i64 0) := (by simp [World.cell?, hzz]); have p1 : W7.cell? ⟨W6.heap.size, 1, none⟩ = some (.int .i64 0) := (by simp [World.cell?, hzz]); have p2 : W7.cell? ⟨W6.heap.size, 2, none⟩ = some (.int .i64 0) := (by simp [World.cell?, hzz]); have p3 : W7.cell? ⟨W6.heap.size, 3, none⟩ = some (.int .i64 0) := (by simp [World.cell?, hzz]); have p4 : W7.cell? ⟨W6.heap.size, 4, none⟩ = some (.int .i64 0) := (by simp [World.cell?, hzz]); have r0 : W7.frozen? ⟨W6.heap.size, 0, none⟩ = false := (by simp [World.frozen?, hzz]); have r1 : W7.frozen? ⟨W6.heap.size, 1, none⟩ = false := (by simp [World.frozen?, hzz]); have r2 : W7.frozen? ⟨W6.heap.size, 2, none⟩ = false := (by simp [World.frozen?, hzz]); have r3 : W7.frozen? ⟨W6.heap.size, 3, none⟩ = false := (by simp [World.frozen?, hzz]); have r4 : W7.frozen? ⟨W6.heap.size, 4, none⟩ = false := (by simp [World.frozen?, hzz]); have hS7o := SS.off hS7 (off5 W7 W6.heap.size (.int .i64 (vv j7).a) (.int .i64 (vv j7).b) (.int .i64 (vv j7).c) (.int .i64 (vv j7).d) (.int .i64 (vv j7).e)) (by omega) (by omega) (by omega)))
            all_goals go_wp2_with fail
            all_goals go_meet
            all_goals (first | (have zz := hzz; exact early5 (vv j7) hbw hB hs6 hr6 S6.out B6.out (by omega) ho7 hc7 hzz) | exact late5 (vv j7) hbw hB S6.out B6.out ho7 hc7)
          case rest =>
            obtain ⟨vb, cr, rfl, hcr, hv1, hv2, hsf, hbo⟩ := hcut
            have S8 := Lib.hid hsf
            have B8 := Lib.hid hbo
            have hof := own_form hbo.own.1
            have hbt := B6.out.lt
            have hln8 := hbo.len
            obtain ⟨t0, t1, t2, t3, t4, t5, t6, t7, t8⟩ := hbo.bx.tb
            clear hsf hbo t0 t1 t2 t3 t4 t5 t6 t8
            go_wp2_with fail
            refine (pu.put_r ⟨(j : Int), cr⟩ (by omega) hof.1 hof.2 B8.out.vs (Nat.le_refl _)).mono ?_
            rintro e W9 ⟨A9, c9, rfl, ho, hb⟩
            obtain ⟨hx, hB9, hbl⟩ := Go.Proofs.Ytdfhnngcddaccaa.tk.Bo.new7 B8.out ho hb
            have s9 := S8.out.grown hBw hb
            have hcr9 := (hb.cell (p := ⟨vb, 2, none⟩) hv2).trans hcr
            obtain ⟨m, hm⟩ : ∃ m, (ins.insR ⟨(j : Int), cr⟩ R).length = m := ⟨_, rfl⟩
            have hmn : m ≤ n + 1 := by rw [← hm, ← hln8]; exact ins.ins_len
            obtain ⟨Q, hQ⟩ : ∃ Q, ins.insR ⟨(j : Int), cr⟩ R = Q := ⟨_, rfl⟩
            rw [hm, hQ] at hB9
            rw [hm]
            have o10 := ((Off.refl (w.heap.size + 2) W9).setCell (p := ⟨w.heap.size + 2, 7, none⟩) rfl (.slice A9 m c9)).setCell (p := ⟨w.heap.size + 2, 4, none⟩) rfl (.int .i64 (max x.l cr))
            have S10 := Lib.hid (s9.off hbw hBw (by omega) (by omega) (by omega) o10)
            have B10 := Lib.hid (hB9.put4 (max x.l cr))
            obtain ⟨d0, d1, d2, d3, d4, d5, d6, d7, d8⟩ := hx.tb
            have f4 := hx.fz 4
            have f7 := hx.fz 7
            have hne : ¬ vb = w.heap.size + 2 := by omega
            have hne2 : ¬ w.heap.size + 2 = vb := by omega
            clear ho hb hx hB9 hbl s9 o10 hm hQ hcr t7 d0 d1 d2 d3 d5 d6 d8
            go_wp2_with fail
            go_roundw
            case rel => exact ⟨k - 1, m, c9, _, A9, Q, by go_num, by omega, S10.out, B10.out⟩
            case measure => simp [intOf]; omega
        · have tn : decide ((0 : Int) < (n' : Int)) = false := decide_eq_false (by omega)
          go_wp2_with fail
          go_roundw
          case rel => exact ⟨k - 1, n, c, x, A, R, by go_num, by omega, S6.out, B6.out⟩
          case measure => simp [intOf]; omega
      · have tj : decide ((j : Int) < (N : Int)) = false := decide_eq_false (by omega)
        go_wp2_with fail
        go_roundw
        case rel => exact ⟨k - 1, n, c, x, A, R, by go_num, by omega, S6.out, B6.out⟩
        case measure => simp [intOf]; omega
    · obtain rfl : k = 0 := by omega
      go_wp2_with fail
      refine (HK.out 3 (by omega) wr S5.out.cur S5.out.kp).mono ?_
      rintro e W6 ⟨q6, rfl, ha6, hb6, hc6, ho6⟩
      have S6 := Lib.hid (S5.out.only hbw hB ho6 hc6)
      have B6 := Lib.hid (Bo.only B5.out hbw ho6)
      obtain ⟨k6, rfl⟩ := Int.eq_ofNat_of_zero_le ha6
      clear hc6 ho6 S5 B5
      go_wp2_with fail
      go_loopw [9] (fun i wr => ∃ (k n2 c2 : Nat) (A2 : Option Addr) (S : List E2), i = .int .i64 k ∧ n2 + k ≤ 3 ∧ SF w B b a len cap w.heap.size (w.heap.size + 1) (.slice D N cN) wr ∧ Bo wr w.heap.size (w.heap.size + 2) x A n c R A2 n2 c2 S) (fun i _ => (intOf i).toNat)
      case atStart => exact ⟨k6, 0, 0, none, [], rfl, by omega, S6.out, B6.out⟩
      case round =>
        clear S6 B6
        obtain ⟨k, n2, c2, A2, S, rfl, hnk2, hsf, hbo⟩ := hrel
        have S6 := Lib.hid hsf
        have B6 := Lib.hid hbo
        have hof := own_form hbo.own.2
        have hln2 := Bo.len2 hbo
        obtain ⟨t0, t1, t2, t3, t4, t5, t6, t7, t8⟩ := hbo.bx.tb
        have hbt := hbo.lt
        have hcl := hsf.cur.lt
        clear hsf hbo
        by_cases hk : 0 < k
        · have tk : decide ((0 : Int) < (k : Int)) = true := decide_eq_true (by omega)
          clear t0 t1 t2 t3 t4 t5 t6 t7
          go_wp2_with fail
          go_region_law (first | (go_simp; go_at_call 34; have hcp : CurAt wr.drew b a len cap := S6.out.cur; refine (HK.out 6 (by omega) wr.drew hcp S6.out.kp.drew).mono ?_; rintro e W7 ⟨q6, rfl, ha6, hb6, hc7, ho7⟩; have h7 : Only b wr W7 := ⟨ho7.os, ho7.tape, ho7.output, ho7.size, ho7.block⟩; have hz7 : W7.heap.size = wr.heap.size := h7.size; have s7 := S6.out.only hbw hB h7 hc7; have b7 := Bo.only B6.out hbw h7; obtain ⟨_, _, _, _, _, _, _, _, t8⟩ := b7.bx.tb) | (go_simp; go_at_call 34; have hnl := el2.new1 wr (.cells #[.int .i64 (-1), .int .i64 0, .int .i64 7, .int .i64 50, .int .i64 99] 3); have s6a := S6.out.grown hBw hnl; have b6a := B6.out.keep hnl; have hcp : CurAt (wr.alloc (.cells #[.int .i64 (-1), .int .i64 0, .int .i64 7, .int .i64 50, .int .i64 99] 3)).drew b a len cap := s6a.cur; refine (HK.out 6 (by omega) (wr.alloc (.cells #[.int .i64 (-1), .int .i64 0, .int .i64 7, .int .i64 50, .int .i64 99] 3)).drew hcp s6a.kp.drew).mono ?_; rintro e W7 ⟨q6, rfl, ha6, hb6, hc7, ho7⟩; have h7 : Only b (wr.alloc (.cells #[.int .i64 (-1), .int .i64 0, .int .i64 7, .int .i64 50, .int .i64 99] 3)) W7 := ⟨ho7.os, ho7.tape, ho7.output, ho7.size, ho7.block⟩; have hL7 : W7.heap[wr.heap.size]? = some (.cells #[.int .i64 (-1), .int .i64 0, .int .i64 7, .int .i64 50, .int .i64 99] 3) := (h7.block wr.heap.size (by omega)).trans (heap_alloc_new wr _); have s7 := s6a.only hbw hB h7 hc7; have b7 := Bo.only b6a hbw h7; obtain ⟨_, _, _, _, _, _, _, _, t8⟩ := b7.bx.tb) | (go_simp; go_at_call 72; have hnl := el2.new1 W7 (.cells #[.int .i64 (-1), .int .i64 0, .int .i64 7, .int .i64 50, .int .i64 99] 3); have hll : (W7.alloc (.cells #[.int .i64 (-1), .int .i64 0, .int .i64 7, .int .i64 50, .int .i64 99] 3)).heap[wr.heap.size]? = some (.cells #[.int .i64 (-1), .int .i64 0, .int .i64 7, .int .i64 50, .int .i64 99] 3) := (by rw [← hz7]; exact heap_alloc_new W7 _); have s7a := s7.grown hBw hnl; have b7a := b7.keep hnl; refine (HP.out wr.heap.size 5 (-1) 99 (W7.alloc (.cells #[.int .i64 (-1), .int .i64 0, .int .i64 7, .int .i64 50, .int .i64 99] 3)) s7a.cur s7a.kp (by omega) (by omega) (by omega) (list5 hll)).mono ?_; rintro e W8 ⟨v8, rfl, hv81, hv82, hc8, ho8⟩; have s8 := s7a.only hbw hB ho8 hc8; have b8 := Bo.only b7a hbw ho8; obtain ⟨_, _, _, _, _, _, _, _, q8t⟩ := b8.bx.tb) | (go_simp; go_at_call 72; refine (HP.out wr.heap.size 5 (-1) 99 W7 s7.cur s7.kp (by omega) (by omega) (by omega) (list5 hL7)).mono ?_; rintro e W8 ⟨v8, rfl, hv81, hv82, hc8, ho8⟩; have s8 := s7.only hbw hB ho8 hc8; have b8 := Bo.only b7 hbw ho8; obtain ⟨_, _, _, _, _, _, _, _, q8t⟩ := b8.bx.tb) | (go_simp; go_at_call 85; refine (pw.put_w ⟨q6, v8⟩ (by omega) hof.1 hof.2 (Bo.vs2 b8) (Nat.le_refl _)).mono ?_; rintro e W9 ⟨A9, c9, rfl, ho9, hb9⟩; obtain ⟨hx9, hB9⟩ := Bo.new8 b8 ho9 hb9; have hl9 := pw.insW_len ⟨q6, v8⟩ S; obtain ⟨_, _, _, _, _, _, _, _, w8⟩ := hx9.tb; have f8 := hx9.fz 8))
          all_goals
            obtain ⟨m, hm⟩ : ∃ m, (pw.insW ⟨q6, v8⟩ S).length = m := ⟨_, rfl⟩
            obtain ⟨Q, hQ⟩ : ∃ Q, pw.insW ⟨q6, v8⟩ S = Q := ⟨_, rfl⟩
            rw [hm] at hl9
            rw [hm, hQ] at hB9
            rw [hm]
            have s9 := s8.grown hBw hb9
            have o9 := (Off.refl (w.heap.size + 2) W9).setCell (p := ⟨w.heap.size + 2, 8, none⟩) rfl (.slice A9 m c9)
            have S9 := Lib.hid (s9.off hbw hBw (by omega) (by omega) (by omega) o9)
            have B9 := Lib.hid hB9
            clear s7 b7 s8 b8 hx9 hB9 s9 o9 t8 q8t w8 f8 hm hQ ho9 hb9 hc7 ho7 hc8 ho8 h7
            go_wp2_with fail
            go_roundw
            case rel => exact ⟨k - 1, m, c9, A9, Q, by go_num, by omega, S9.out, B9.out⟩
            case measure => simp [intOf]; omega
        · obtain rfl : k = 0 := by omega
          obtain ⟨z0, z1, z2, z3, z4, z5, z6, z7, z8⟩ := S6.out.rz.tb
          have y0 := S6.out.rz.fz 0
          have y1 := S6.out.rz.fz 1
          have y2 := S6.out.rz.fz 2
          have y3 := S6.out.rz.fz 3
          have y4 := S6.out.rz.fz 4
          have y5 := S6.out.rz.fz 5
          have y6 := S6.out.rz.fz 6
          have y7 := S6.out.rz.fz 7
          have y8 := S6.out.rz.fz 8
          go_wp2_with fail
          clear t0 t1 t2 t3 t4 t5 t6 t7 t8 z0 z1 z2 z3 z4 z5 z6 z7 z8 y0 y1 y2 y3 y4 y5 y6 y7 y8
          have hF := fun W' hW => fin9 (W' := W') hbw hBw S6.out B6.out (show w.heap.size + 1 ≠ w.heap.size + 2 by omega) hW
          generalize hW : (((((((((World.setCell _ _ _).setCell _ _).setCell _ _).setCell _ _).setCell _ _).setCell _ _).setCell _ _).setCell _ _).setCell _ _) = W9
          obtain ⟨⟨e0, e1, e2, e3, e4, e5, e6, e7, e8⟩, hO, hcu, hkp⟩ := hF W9 hW
          exact bodyPost_ret (v := txv x (.slice A n c) (.slice A2 n2 c2)) (by simp [results, Try.results62, go_sem, e0, e1, e2, e3, e4, e5, e6, e7, e8]) rfl ⟨x, A, n, c, R, A2, n2, c2, S, rfl, by omega, by omega, hO, hcu, hkp⟩
end Go.Proofs.Ytdfhnngcddaccaa.don
