/- The model's l5Any: a drawn transaction, perhaps spoiled in a field, in memory of its own. -/
import Derived.Test.YtdfhnngcddaccaaDon
import Derived.Test.YtdfhnngcddaccaaAo
namespace Go.Proofs.Ytdfhnngcddaccaa.dany
open Go.ChangeShapes Go.WideShapes Go.ChangeAt Go.RowKit
open Go.Proofs.Ytdfhnngcddaccaa.el2 Go.Proofs.Ytdfhnngcddaccaa.tx Go.Proofs.Ytdfhnngcddaccaa.ap Go.Proofs.Ytdfhnngcddaccaa.bx Go.Proofs.Ytdfhnngcddaccaa.ad Go.Proofs.Ytdfhnngcddaccaa.tk Go.Proofs.Ytdfhnngcddaccaa.sf Go.Proofs.Ytdfhnngcddaccaa.don Go.Proofs.Ytdfhnngcddaccaa.cl
open Go.Proofs.Ytdfhnngcddaccaa.cur (CurAt CodeAt Kp Only below_calls pick_calls)
open Go.Proofs.Ytdfhnngcddaccaa.sl (Ver)
open Go.Proofs.Ytdfhnngcddaccaa.st (Rs)
set_option linter.unusedVariables false
set_option linter.unusedSimpArgs false
section
variable {w w' : World} {base tb n c n2 c2 : Nat} {x : Hd} {A A2 : Option Addr} {R S : List E2}
theorem Bo.put0 (h : Bo w base tb x A n c R A2 n2 c2 S) (z : Int) : Bo (w.setCell ⟨tb, 0, none⟩ (.int .i64 z)) base tb { x with i := z } A n c R A2 n2 c2 S :=
  have ho : Off tb w (w.setCell ⟨tb, 0, none⟩ (.int .i64 z)) := (Off.refl tb w).setCell (p := ⟨tb, 0, none⟩) rfl _
  ⟨(World.rowIs.set h.bx 0 (.int .i64 z)).congr (nine_ext rfl rfl rfl rfl rfl rfl rfl rfl rfl), ⟨own_same h.own.1 fun g hg => ho.block g (h.ne.1 g hg), own_same h.own.2 fun g hg => ho.block g (h.ne.2.1 g hg)⟩, h.le⟩
theorem Bo.put1 (h : Bo w base tb x A n c R A2 n2 c2 S) (z : Int) : Bo (w.setCell ⟨tb, 1, none⟩ (.int .i64 z)) base tb { x with s := z } A n c R A2 n2 c2 S :=
  have ho : Off tb w (w.setCell ⟨tb, 1, none⟩ (.int .i64 z)) := (Off.refl tb w).setCell (p := ⟨tb, 1, none⟩) rfl _
  ⟨(World.rowIs.set h.bx 1 (.int .i64 z)).congr (nine_ext rfl rfl rfl rfl rfl rfl rfl rfl rfl), ⟨own_same h.own.1 fun g hg => ho.block g (h.ne.1 g hg), own_same h.own.2 fun g hg => ho.block g (h.ne.2.1 g hg)⟩, h.le⟩
theorem Bo.put2 (h : Bo w base tb x A n c R A2 n2 c2 S) (z : Int) : Bo (w.setCell ⟨tb, 2, none⟩ (.int .i64 z)) base tb { x with t := z } A n c R A2 n2 c2 S :=
  have ho : Off tb w (w.setCell ⟨tb, 2, none⟩ (.int .i64 z)) := (Off.refl tb w).setCell (p := ⟨tb, 2, none⟩) rfl _
  ⟨(World.rowIs.set h.bx 2 (.int .i64 z)).congr (nine_ext rfl rfl rfl rfl rfl rfl rfl rfl rfl), ⟨own_same h.own.1 fun g hg => ho.block g (h.ne.1 g hg), own_same h.own.2 fun g hg => ho.block g (h.ne.2.1 g hg)⟩, h.le⟩
theorem Bo.put6 (h : Bo w base tb x A n c R A2 n2 c2 S) (z : Int) : Bo (w.setCell ⟨tb, 6, none⟩ (.int .i64 z)) base tb { x with c := z } A n c R A2 n2 c2 S :=
  have ho : Off tb w (w.setCell ⟨tb, 6, none⟩ (.int .i64 z)) := (Off.refl tb w).setCell (p := ⟨tb, 6, none⟩) rfl _
  ⟨(World.rowIs.set h.bx 6 (.int .i64 z)).congr (nine_ext rfl rfl rfl rfl rfl rfl rfl rfl rfl), ⟨own_same h.own.1 fun g hg => ho.block g (h.ne.1 g hg), own_same h.own.2 fun g hg => ho.block g (h.ne.2.1 g hg)⟩, h.le⟩
end
def DX (B b : Nat) (a : Option Addr) (len cap : Nat) (w : World) (e : Ending) (w' : World) : Prop :=
  ∃ x A n c R A2 n2 c2 S, e = .returned (txv x (.slice A n c) (.slice A2 n2 c2)) ∧ n ≤ 5 ∧ n2 ≤ 5 ∧ OwnT w' w.heap.size (.slice A n c) n R (.slice A2 n2 c2) n2 S ∧ CurAt w' b a len cap ∧ Kp B b w w'
theorem list_a {W : World} {g : Nat} {t : TypeId} (h : W.heap[g]? = some (.cells #[.int .i64 0, .int .i64 9, .int .i64 10] t (0, 0))) : ∀ j, j < 3 → ∃ v : Int, W.cell? ⟨g, j, none⟩ = some (.int .i64 v) ∧ -2 ≤ v ∧ v ≤ 1001 := by
  intro j hj
  have : j = 0 ∨ j = 1 ∨ j = 2 := by omega
  rcases this with rfl | rfl | rfl
  · exact ⟨0, by simp [World.cell?, h], by omega, by omega⟩
  · exact ⟨9, by simp [World.cell?, h], by omega, by omega⟩
  · exact ⟨10, by simp [World.cell?, h], by omega, by omega⟩
theorem list_b {W : World} {g : Nat} {t : TypeId} (h : W.heap[g]? = some (.cells #[.int .i64 0, .int .i64 5] t (0, 0))) : ∀ j, j < 2 → ∃ v : Int, W.cell? ⟨g, j, none⟩ = some (.int .i64 v) ∧ -2 ≤ v ∧ v ≤ 1001 := by
  intro j hj
  have : j = 0 ∨ j = 1 := by omega
  rcases this with rfl | rfl
  · exact ⟨0, by simp [World.cell?, h], by omega, by omega⟩
  · exact ⟨5, by simp [World.cell?, h], by omega, by omega⟩
theorem list_c {W : World} {g : Nat} {t : TypeId} (h : W.heap[g]? = some (.cells #[.int .i64 (-1), .int .i64 999, .int .i64 1000] t (0, 0))) : ∀ j, j < 3 → ∃ v : Int, W.cell? ⟨g, j, none⟩ = some (.int .i64 v) ∧ -2 ≤ v ∧ v ≤ 1001 := by
  intro j hj
  have : j = 0 ∨ j = 1 ∨ j = 2 := by omega
  rcases this with rfl | rfl | rfl
  · exact ⟨-1, by simp [World.cell?, h], by omega, by omega⟩
  · exact ⟨999, by simp [World.cell?, h], by omega, by omega⟩
  · exact ⟨1000, by simp [World.cell?, h], by omega, by omega⟩
theorem list_d {W : World} {g : Nat} {t : TypeId} (h : W.heap[g]? = some (.cells #[.int .i64 0, .int .i64 1, .int .i64 1000, .int .i64 1001] t (0, 0))) : ∀ j, j < 4 → ∃ v : Int, W.cell? ⟨g, j, none⟩ = some (.int .i64 v) ∧ -2 ≤ v ∧ v ≤ 1001 := by
  intro j hj
  have : j = 0 ∨ j = 1 ∨ j = 2 ∨ j = 3 := by omega
  rcases this with rfl | rfl | rfl | rfl
  · exact ⟨0, by simp [World.cell?, h], by omega, by omega⟩
  · exact ⟨1, by simp [World.cell?, h], by omega, by omega⟩
  · exact ⟨1000, by simp [World.cell?, h], by omega, by omega⟩
  · exact ⟨1001, by simp [World.cell?, h], by omega, by omega⟩
theorem list_e {W : World} {g : Nat} {t : TypeId} (h : W.heap[g]? = some (.cells #[.int .i64 (-1), .int .i64 0, .int .i64 3, .int .i64 1000] t (0, 0))) : ∀ j, j < 4 → ∃ v : Int, W.cell? ⟨g, j, none⟩ = some (.int .i64 v) ∧ -2 ≤ v ∧ v ≤ 1001 := by
  intro j hj
  have : j = 0 ∨ j = 1 ∨ j = 2 ∨ j = 3 := by omega
  rcases this with rfl | rfl | rfl | rfl
  · exact ⟨-1, by simp [World.cell?, h], by omega, by omega⟩
  · exact ⟨0, by simp [World.cell?, h], by omega, by omega⟩
  · exact ⟨3, by simp [World.cell?, h], by omega, by omega⟩
  · exact ⟨1000, by simp [World.cell?, h], by omega, by omega⟩
theorem list_f {W : World} {g : Nat} {t : TypeId} (h : W.heap[g]? = some (.cells #[.int .i64 (-2), .int .i64 100, .int .i64 0] t (0, 0))) : ∀ j, j < 3 → ∃ v : Int, W.cell? ⟨g, j, none⟩ = some (.int .i64 v) ∧ -2 ≤ v ∧ v ≤ 1001 := by
  intro j hj
  have : j = 0 ∨ j = 1 ∨ j = 2 := by omega
  rcases this with rfl | rfl | rfl
  · exact ⟨-2, by simp [World.cell?, h], by omega, by omega⟩
  · exact ⟨100, by simp [World.cell?, h], by omega, by omega⟩
  · exact ⟨0, by simp [World.cell?, h], by omega, by omega⟩
theorem SF.kpn {w W W' : World} {B b len cap sb rb : Nat} {a : Option Addr} {sv : Value} (h : SF w B b a len cap sb rb sv W) (hb : b < w.heap.size) (hk : Kp B b W W') (hc : CurAt W' b a len cap) : SF w B b a len cap sb rb sv W' :=
  ⟨h.kp.trans hk, hc, (hk.cell (p := ⟨sb, 0, none⟩) h.s2 (by have := h.s1; simp only; omega)).trans h.st, h.rz.of_block (hk.gr.block rb h.rz.lt (fun e => by have := h.r1; injection e with e; omega)), h.s1, Nat.lt_of_lt_of_le h.s2 hk.size, h.r1⟩
section
variable {w w' : World} {base tb n c n2 c2 : Nat} {x : Hd} {A A2 : Option Addr} {R S : List E2}
/-- a new list of writes, made by what changes the old one's row alone -/
theorem Bo.put8 (h : Bo w base tb x A n c R A2 n2 c2 S) {A' : Option Addr} {n' c' : Nat} {S' : List E2} (ho : w'.ownsRow base 81 2 (.slice A' n' c') n' (flat S')) (hg : w.grownBy w' (Value.slice A2 n2 c2).ownBlock) :
    Bx w' tb x (.slice A n c) (.slice A2 n2 c2) ∧ Bo (w'.setCell ⟨tb, 8, none⟩ (.slice A' n' c')) base tb x A n c R A' n' c' S' := by
  have hb : Bx w' tb x (.slice A n c) (.slice A2 n2 c2) := h.bx.of_block (hg.block tb h.lt fun e => h.ne.2.1 tb e.symm rfl)
  have hoff : Off tb w' (w'.setCell ⟨tb, 8, none⟩ (.slice A' n' c')) := (Off.refl tb w').setCell (p := ⟨tb, 8, none⟩) rfl _
  obtain ⟨cb, hcb⟩ := bx_heap hb
  have h2 : w'.ownsRow base 125 2 (.slice A n c) n (flat R) := own_same h.own.1 fun g hg2 => hg.block g (by obtain ⟨_, cur, hh⟩ := own_block h.own.1 hg2; exact heap_lt hh) fun e => h.ne.2.2 g g hg2 e.symm rfl
  refine ⟨hb, ⟨hb.set8 _, ⟨own_same h2 fun g hg1 => hoff.block g ?_, own_same ho fun g hg2 => hoff.block g ?_⟩, h.le⟩⟩
  · obtain ⟨_, cur, hh⟩ := own_block h2 hg1
    exact type_ne hh hcb (by decide)
  · obtain ⟨_, cur, hh⟩ := own_block ho hg2
    exact type_ne hh hcb (by decide)
end
section
variable {w W W' : World} {B b len cap sb rb : Nat} {a : Option Addr} {sv : Value} {base n size : Nat} {e : TypeId} {v : Value} {xs : List Value}
/-- a change of a row of one's own, of another type than a transaction -/
theorem SF.row (h : SF w B b a len cap rb rb sv W) (hb : b < w.heap.size) (hB : B ≤ w.heap.size) (ho : W.ownsRow w.heap.size e size v n xs) (he : e ≠ 30) (hg : W.grownBy W' v.ownBlock) : SF w B b a len cap rb rb sv W' := by
  obtain ⟨cb, hcb⟩ := bx_heap h.rz
  have hr : ∀ g, v.ownBlock = some g → w.heap.size ≤ g ∧ g ≠ rb := fun g hg2 => by
    obtain ⟨h1, cur, hh⟩ := own_block ho hg2
    exact ⟨h1, type_ne hh hcb he⟩
  have hrb : W'.heap[rb]? = W.heap[rb]? := hg.block rb h.rz.lt (fun e2 => (hr rb e2.symm).2 rfl)
  exact ⟨h.kp.grown hg hB (fun k e2 => (hr k e2).1), h.cur.grown hg (fun e2 => by have := (hr b e2.symm).1; omega), (World.cell?_of_block (w := W) (a := ⟨rb, 0, none⟩) hrb).trans h.st, h.rz.of_block hrb, h.s1, Nat.lt_of_lt_of_le h.s2 hg.size, h.r1⟩
end
set_option maxRecDepth 100000 in
set_option maxHeartbeats 12800000 in
theorem draw_anyt (b B : Nat) (a : Option Addr) (len cap : Nat) (w : World) (hl : len ≤ 1048576) (hc : CurAt w b a len cap) (hcode : CodeAt w B a len) (hB : B ≤ b) :
    Calls Try.prog 64 #[.pointer (some ⟨b, 0, none⟩)] w (DX B b a len cap w) := by
  have hbw := hc.lt
  have hBw : B ≤ w.heap.size := by omega
  have HK := Lib.hid (fun (n : Int) (hn : 0 < n) W (hW : CurAt W b a len cap) (hO : Kp B b w W) => below_calls b B a len cap n W hl hW (hcode.below (Nat.le_refl _) hO.bel) hB hn)
  have HP := Lib.hid (fun (g n : Nat) (lo hi : Int) W (hW : CurAt W b a len cap) (hO : Kp B b w W) (h0 : 0 < n) (hn : n ≤ 1048576) (hg : g ≠ b) (hlist : ∀ j, j < n → ∃ v : Int, W.cell? ⟨g, j, none⟩ = some (.int .i64 v) ∧ lo ≤ v ∧ v ≤ hi) => pick_calls b B g a len cap n lo hi W hl hW (hcode.below (Nat.le_refl _) hO.bel) hB h0 hn hg hlist)
  have HD := Lib.hid (fun W (hW : CurAt W b a len cap) (hO : Kp B b w W) => draws.draw_store b B a len cap W hl hW (hcode.below (Nat.le_refl _) hO.bel) hB)
  have HO := Lib.hid (fun W (hW : CurAt W b a len cap) (hO : Kp B b w W) (D : Option Addr) (cN : Nat) (C : List (List Ver)) (hS : ∀ V : World, Kp B b W V → Rs V V.heap.size D 6 C) => draw_on b B a len cap W hl hW (hcode.below (Nat.le_refl _) hO.bel) hB (D := D) (N := 6) (cN := cN) (C := C) (by omega) hS)
  have hk0 : Kp B b w (w.alloc (.cells #[.int .i64 0, .int .i64 0, .int .i64 0, .int .i64 0, .int .i64 0, .int .i64 0, .int .i64 0, .slice none 0 0, .slice none 0 0] 30)) := (Kp.refl B b w).alloc hBw _
  have sf0 : SF w B b a len cap w.heap.size w.heap.size (.int .i64 0) (w.alloc (.cells #[.int .i64 0, .int .i64 0, .int .i64 0, .int .i64 0, .int .i64 0, .int .i64 0, .int .i64 0, .slice none 0 0, .slice none 0 0] 30)) := ⟨hk0, hc.alloc _, (Bx.zero w).tb.1, Bx.zero w, Nat.le_refl _, by simp, Nat.le_refl _⟩
  have hz0 : (w.alloc (.cells #[.int .i64 0, .int .i64 0, .int .i64 0, .int .i64 0, .int .i64 0, .int .i64 0, .int .i64 0, .slice none 0 0, .slice none 0 0] 30)).heap.size = w.heap.size + 1 := by simp
  clear hc hcode hk0
  go_enter Try.func64, Try.ntmps64
  go_wp2_with fail
  generalize w.alloc _ = W0 at sf0 hz0 ⊢
  have S0 := Lib.hid sf0
  clear sf0
  refine (HD.out W0 S0.out.cur S0.out.kp).mono ?_
  rintro e W1 ⟨g1, c1, C1, rfl, hc16, hsr, hcu1, hkp1⟩
  have S1 := Lib.hid (SF.kpn S0.out hbw hkp1 hcu1)
  have HR := Lib.hid hsr
  have hb0 : b < W0.heap.size := by omega
  clear hcu1 hkp1 hsr hz0
  go_wp2_with fail
  refine (HO.out W1 S1.out.cur S1.out.kp (some ⟨g1, 0, none⟩) c1 C1 (fun V hV => (draws.SR.kp HR.out hb0 hV).rs)).mono ?_
  rintro e W2 ⟨x, A, n, c, R, A2, n2, c2, S, rfl, hn, hn2, hown, hcu2, hkp2⟩
  have hw12 : w.heap.size ≤ W1.heap.size := S1.out.kp.size
  have S2 := Lib.hid (SF.kpn S1.out hbw hkp2 hcu2)
  have hw22 : W1.heap.size ≤ W2.heap.size := hkp2.size
  have hr0 := S1.out.s2
  have bo3 : Bo (W2.alloc (.cells #[.int .i64 x.i, .int .i64 x.s, .int .i64 x.t, .int .i64 x.b, .int .i64 x.l, .int .i64 x.h, .int .i64 x.c, .slice A n c, .slice A2 n2 c2] 30)) w.heap.size W2.heap.size x A n c R A2 n2 c2 S := ⟨Bx.new W2 x _ _, (hown.more hw12).keep (el2.new1 W2 _), by omega⟩
  have s3 := S2.out.grown hBw (el2.new1 W2 (.cells #[.int .i64 x.i, .int .i64 x.s, .int .i64 x.t, .int .i64 x.b, .int .i64 x.l, .int .i64 x.h, .int .i64 x.c, .slice A n c, .slice A2 n2 c2] 30))
  clear hcu2 hkp2 hown
  go_wp2_with fail
  generalize htb : W2.heap.size = tb at bo3 hw22 ⊢
  generalize W2.alloc _ = W3 at bo3 s3 ⊢
  have S3 := Lib.hid s3
  have B3 := Lib.hid bo3
  have htw : w.heap.size < tb := by omega
  clear bo3 s3 htb hw22 hw12 hr0
  refine (HK.out 16 (by omega) W3 S3.out.cur S3.out.kp).mono ?_
  rintro e W4 ⟨q, rfl, hq1, hq2, hc4, ho4⟩
  have S4 := Lib.hid (S3.out.only hbw hB ho4 hc4)
  have B4 := Lib.hid (Bo.only B3.out hbw ho4)
  clear hc4 ho4
  by_cases h0 : q = 0
  · have t0 : (q == 0) = true := by simp [h0]
    clear h0 hq1 hq2
    go_wp2_with fail
    have hnl := el2.new1 W4 (.cells #[.int .i64 0, .int .i64 9, .int .i64 10] 3)
    have hll := heap_alloc_new W4 (.cells #[.int .i64 0, .int .i64 9, .int .i64 10] 3)
    have s5a := S4.out.grown hBw hnl
    have b5a := B4.out.keep hnl
    have hcl := S4.out.cur.lt
    refine (HP.out W4.heap.size 3 (-2) 1001 (W4.alloc (.cells #[.int .i64 0, .int .i64 9, .int .i64 10] 3)) s5a.cur s5a.kp (by omega) (by omega) (by omega) (list_a hll)).mono ?_
    rintro e W5 ⟨v5, rfl, hv5, hv5', hc5, ho5⟩
    have s5b := s5a.only hbw hB ho5 hc5
    have b5b := Bo.only b5a hbw ho5
    have d5 := (World.rowIs.cell b5b.bx (show 0 < 9 by decide))
    have f5 := b5b.bx.fz 0
    have o5 := (Off.refl tb W5).setCell (p := ⟨tb, 0, none⟩) rfl (.int .i64 v5)
    have S5 := Lib.hid (s5b.off hbw hBw (by omega) (by omega) (by omega) o5)
    have B5 := Lib.hid (Bo.put0 b5b v5)
    clear s5a b5a s5b b5b o5 hc5 ho5
    clear hnl hll hcl
    obtain ⟨t0, t1, t2, t3, t4, t5, t6, t7, t8⟩ := B5.out.bx.tb
    obtain ⟨z0, z1, z2, z3, z4, z5, z6, z7, z8⟩ := S5.out.rz.tb
    have y0 := S5.out.rz.fz 0
    have y1 := S5.out.rz.fz 1
    have y2 := S5.out.rz.fz 2
    have y3 := S5.out.rz.fz 3
    have y4 := S5.out.rz.fz 4
    have y5 := S5.out.rz.fz 5
    have y6 := S5.out.rz.fz 6
    have y7 := S5.out.rz.fz 7
    have y8 := S5.out.rz.fz 8
    go_wp2_with fail
    clear t0 t1 t2 t3 t4 t5 t6 t7 t8 z0 z1 z2 z3 z4 z5 z6 z7 z8 y0 y1 y2 y3 y4 y5 y6 y7 y8
    have hF := fun W' hW => fin9 (W' := W') hbw hBw S5.out B5.out (show w.heap.size ≠ tb by omega) hW
    generalize hW : (((((((((World.setCell _ _ _).setCell _ _).setCell _ _).setCell _ _).setCell _ _).setCell _ _).setCell _ _).setCell _ _).setCell _ _) = W9
    obtain ⟨⟨e0, e1, e2, e3, e4, e5, e6, e7, e8⟩, hO, hcu, hkp⟩ := hF W9 hW
    exact bodyPost_ret (v := txv { x with i := v5 } (.slice A n c) (.slice A2 n2 c2)) (by simp [results, Try.results64, go_sem, e0, e1, e2, e3, e4, e5, e6, e7, e8]) rfl ⟨_, _, _, _, _, _, _, _, _, rfl, by omega, by omega, hO, hcu, hkp⟩
  have t0 : (q == 0) = false := by simp [h0]
  clear h0
  by_cases h1 : q = 1
  · have t1 : (q == 1) = true := by simp [h1]
    clear h1 hq1 hq2
    go_wp2_with fail
    have hnl := el2.new1 W4 (.cells #[.int .i64 0, .int .i64 5] 3)
    have hll := heap_alloc_new W4 (.cells #[.int .i64 0, .int .i64 5] 3)
    have s5a := S4.out.grown hBw hnl
    have b5a := B4.out.keep hnl
    have hcl := S4.out.cur.lt
    refine (HP.out W4.heap.size 2 (-2) 1001 (W4.alloc (.cells #[.int .i64 0, .int .i64 5] 3)) s5a.cur s5a.kp (by omega) (by omega) (by omega) (list_b hll)).mono ?_
    rintro e W5 ⟨v5, rfl, hv5, hv5', hc5, ho5⟩
    have s5b := s5a.only hbw hB ho5 hc5
    have b5b := Bo.only b5a hbw ho5
    have d5 := (World.rowIs.cell b5b.bx (show 1 < 9 by decide))
    have f5 := b5b.bx.fz 1
    have o5 := (Off.refl tb W5).setCell (p := ⟨tb, 1, none⟩) rfl (.int .i64 v5)
    have S5 := Lib.hid (s5b.off hbw hBw (by omega) (by omega) (by omega) o5)
    have B5 := Lib.hid (Bo.put1 b5b v5)
    clear s5a b5a s5b b5b o5 hc5 ho5
    clear hnl hll hcl
    obtain ⟨t0, t1, t2, t3, t4, t5, t6, t7, t8⟩ := B5.out.bx.tb
    obtain ⟨z0, z1, z2, z3, z4, z5, z6, z7, z8⟩ := S5.out.rz.tb
    have y0 := S5.out.rz.fz 0
    have y1 := S5.out.rz.fz 1
    have y2 := S5.out.rz.fz 2
    have y3 := S5.out.rz.fz 3
    have y4 := S5.out.rz.fz 4
    have y5 := S5.out.rz.fz 5
    have y6 := S5.out.rz.fz 6
    have y7 := S5.out.rz.fz 7
    have y8 := S5.out.rz.fz 8
    go_wp2_with fail
    clear t0 t1 t2 t3 t4 t5 t6 t7 t8 z0 z1 z2 z3 z4 z5 z6 z7 z8 y0 y1 y2 y3 y4 y5 y6 y7 y8
    have hF := fun W' hW => fin9 (W' := W') hbw hBw S5.out B5.out (show w.heap.size ≠ tb by omega) hW
    generalize hW : (((((((((World.setCell _ _ _).setCell _ _).setCell _ _).setCell _ _).setCell _ _).setCell _ _).setCell _ _).setCell _ _).setCell _ _) = W9
    obtain ⟨⟨e0, e1, e2, e3, e4, e5, e6, e7, e8⟩, hO, hcu, hkp⟩ := hF W9 hW
    exact bodyPost_ret (v := txv { x with s := v5 } (.slice A n c) (.slice A2 n2 c2)) (by simp [results, Try.results64, go_sem, e0, e1, e2, e3, e4, e5, e6, e7, e8]) rfl ⟨_, _, _, _, _, _, _, _, _, rfl, by omega, by omega, hO, hcu, hkp⟩
  have t1 : (q == 1) = false := by simp [h1]
  clear h1
  by_cases h2 : q = 2
  · have t2 : (q == 2) = true := by simp [h2]
    clear h2 hq1 hq2
    go_wp2_with fail
    refine (HK.out 5 (by omega) W4 S4.out.cur S4.out.kp).mono ?_
    rintro e W5 ⟨v5, rfl, hv5, hv5', hc5, ho5⟩
    have s5a := S4.out
    have b5a := B4.out
    have s5b := s5a.only hbw hB ho5 hc5
    have b5b := Bo.only b5a hbw ho5
    have d5 := (World.rowIs.cell b5b.bx (show 2 < 9 by decide))
    have f5 := b5b.bx.fz 2
    have o5 := (Off.refl tb W5).setCell (p := ⟨tb, 2, none⟩) rfl (.int .i64 v5)
    have S5 := Lib.hid (s5b.off hbw hBw (by omega) (by omega) (by omega) o5)
    have B5 := Lib.hid (Bo.put2 b5b v5)
    clear s5a b5a s5b b5b o5 hc5 ho5
    go_wp2_with fail
    clear d5 f5
    refine (HK.out 3 (by omega) (W5.setCell ⟨tb, 2, none⟩ (.int .i64 v5)) S5.out.cur S5.out.kp).mono ?_
    rintro e W6 ⟨v6, rfl, hv6, hv6', hc6, ho6⟩
    have s6a := S5.out
    have b6a := B5.out
    have s6b := s6a.only hbw hB ho6 hc6
    have b6b := Bo.only b6a hbw ho6
    have d6 := (World.rowIs.cell b6b.bx (show 6 < 9 by decide))
    have f6 := b6b.bx.fz 6
    have o6 := (Off.refl tb W6).setCell (p := ⟨tb, 6, none⟩) rfl (.int .i64 v6)
    have S6 := Lib.hid (s6b.off hbw hBw (by omega) (by omega) (by omega) o6)
    have B6 := Lib.hid (Bo.put6 b6b v6)
    clear s6a b6a s6b b6b o6 hc6 ho6
    obtain ⟨t0, t1, t2, t3, t4, t5, t6, t7, t8⟩ := B6.out.bx.tb
    obtain ⟨z0, z1, z2, z3, z4, z5, z6, z7, z8⟩ := S6.out.rz.tb
    have y0 := S6.out.rz.fz 0
    have y1 := S6.out.rz.fz 1
    have y2 := S6.out.rz.fz 2
    have y3 := S6.out.rz.fz 3
    have y4 := S6.out.rz.fz 4
    have y5 := S6.out.rz.fz 5
    have y6 := S6.out.rz.fz 6
    have y7 := S6.out.rz.fz 7
    have y8 := S6.out.rz.fz 8
    go_wp2_with fail
    clear t0 t1 t2 t3 t4 t5 t6 t7 t8 z0 z1 z2 z3 z4 z5 z6 z7 z8 y0 y1 y2 y3 y4 y5 y6 y7 y8
    have hF := fun W' hW => fin9 (W' := W') hbw hBw S6.out B6.out (show w.heap.size ≠ tb by omega) hW
    generalize hW : (((((((((World.setCell _ _ _).setCell _ _).setCell _ _).setCell _ _).setCell _ _).setCell _ _).setCell _ _).setCell _ _).setCell _ _) = W9
    obtain ⟨⟨e0, e1, e2, e3, e4, e5, e6, e7, e8⟩, hO, hcu, hkp⟩ := hF W9 hW
    exact bodyPost_ret (v := txv { x with t := v5, c := v6 } (.slice A n c) (.slice A2 n2 c2)) (by simp [results, Try.results64, go_sem, e0, e1, e2, e3, e4, e5, e6, e7, e8]) rfl ⟨_, _, _, _, _, _, _, _, _, rfl, by omega, by omega, hO, hcu, hkp⟩
  have t2 : (q == 2) = false := by simp [h2]
  clear h2
  by_cases h3 : q = 3
  · have t3 : (q == 3) = true := by simp [h3]
    clear h3 hq1 hq2
    go_wp2_with fail
    have hnl := el2.new1 W4 (.cells #[.int .i64 (-1), .int .i64 999, .int .i64 1000] 3)
    have hll := heap_alloc_new W4 (.cells #[.int .i64 (-1), .int .i64 999, .int .i64 1000] 3)
    have s5a := S4.out.grown hBw hnl
    have b5a := B4.out.keep hnl
    have hcl := S4.out.cur.lt
    refine (HP.out W4.heap.size 3 (-2) 1001 (W4.alloc (.cells #[.int .i64 (-1), .int .i64 999, .int .i64 1000] 3)) s5a.cur s5a.kp (by omega) (by omega) (by omega) (list_c hll)).mono ?_
    rintro e W5 ⟨v5, rfl, hv5, hv5', hc5, ho5⟩
    have s5b := s5a.only hbw hB ho5 hc5
    have b5b := Bo.only b5a hbw ho5
    have d5 := (World.rowIs.cell b5b.bx (show 4 < 9 by decide))
    have f5 := b5b.bx.fz 4
    have o5 := (Off.refl tb W5).setCell (p := ⟨tb, 4, none⟩) rfl (.int .i64 v5)
    have S5 := Lib.hid (s5b.off hbw hBw (by omega) (by omega) (by omega) o5)
    have B5 := Lib.hid (Bo.put4 b5b v5)
    clear s5a b5a s5b b5b o5 hc5 ho5
    clear hnl hll hcl
    have hz5 : (W5.setCell ⟨tb, 4, none⟩ (.int .i64 v5)).heap.size = W5.heap.size := by simp [World.setCell]
    go_wp2_with fail
    clear d5 f5
    have hnl := el2.new1 (W5.setCell ⟨tb, 4, none⟩ (.int .i64 v5)) (.cells #[.int .i64 0, .int .i64 1, .int .i64 1000, .int .i64 1001] 3)
    have hll := heap_alloc_new (W5.setCell ⟨tb, 4, none⟩ (.int .i64 v5)) (.cells #[.int .i64 0, .int .i64 1, .int .i64 1000, .int .i64 1001] 3)
    have s6a := S5.out.grown hBw hnl
    have b6a := B5.out.keep hnl
    have hcl := S5.out.cur.lt
    rw [hz5] at hll
    refine (HP.out W5.heap.size 4 (-2) 1001 ((W5.setCell ⟨tb, 4, none⟩ (.int .i64 v5)).alloc (.cells #[.int .i64 0, .int .i64 1, .int .i64 1000, .int .i64 1001] 3)) s6a.cur s6a.kp (by omega) (by omega) (by omega) (list_d hll)).mono ?_
    rintro e W6 ⟨v6, rfl, hv6, hv6', hc6, ho6⟩
    have s6b := s6a.only hbw hB ho6 hc6
    have b6b := Bo.only b6a hbw ho6
    have d6 := (World.rowIs.cell b6b.bx (show 5 < 9 by decide))
    have f6 := b6b.bx.fz 5
    have o6 := (Off.refl tb W6).setCell (p := ⟨tb, 5, none⟩) rfl (.int .i64 v6)
    have S6 := Lib.hid (s6b.off hbw hBw (by omega) (by omega) (by omega) o6)
    have B6 := Lib.hid (Bo.put5 b6b v6)
    clear s6a b6a s6b b6b o6 hc6 ho6
    clear hnl hll hcl
    obtain ⟨t0, t1, t2, t3, t4, t5, t6, t7, t8⟩ := B6.out.bx.tb
    obtain ⟨z0, z1, z2, z3, z4, z5, z6, z7, z8⟩ := S6.out.rz.tb
    have y0 := S6.out.rz.fz 0
    have y1 := S6.out.rz.fz 1
    have y2 := S6.out.rz.fz 2
    have y3 := S6.out.rz.fz 3
    have y4 := S6.out.rz.fz 4
    have y5 := S6.out.rz.fz 5
    have y6 := S6.out.rz.fz 6
    have y7 := S6.out.rz.fz 7
    have y8 := S6.out.rz.fz 8
    go_wp2_with fail
    clear t0 t1 t2 t3 t4 t5 t6 t7 t8 z0 z1 z2 z3 z4 z5 z6 z7 z8 y0 y1 y2 y3 y4 y5 y6 y7 y8
    have hF := fun W' hW => fin9 (W' := W') hbw hBw S6.out B6.out (show w.heap.size ≠ tb by omega) hW
    generalize hW : (((((((((World.setCell _ _ _).setCell _ _).setCell _ _).setCell _ _).setCell _ _).setCell _ _).setCell _ _).setCell _ _).setCell _ _) = W9
    obtain ⟨⟨e0, e1, e2, e3, e4, e5, e6, e7, e8⟩, hO, hcu, hkp⟩ := hF W9 hW
    exact bodyPost_ret (v := txv { x with l := v5, h := v6 } (.slice A n c) (.slice A2 n2 c2)) (by simp [results, Try.results64, go_sem, e0, e1, e2, e3, e4, e5, e6, e7, e8]) rfl ⟨_, _, _, _, _, _, _, _, _, rfl, by omega, by omega, hO, hcu, hkp⟩
  have t3 : (q == 3) = false := by simp [h3]
  clear h3
  by_cases h4 : q = 4
  · have t4 : (q == 4) = true := by simp [h4]
    clear h4 hq1 hq2
    go_wp2_with fail
    obtain ⟨_, _, _, _, _, _, _, t8, _⟩ := B4.out.bx.tb
    have hbt := B4.out.lt
    have hcl := S4.out.cur.lt
    try go_wp2_with fail
    go_region_law (first | (go_simp; go_at_call 34; have hcp : CurAt W4.drew b a len cap := S4.out.cur; refine (HK.out 7 (by omega) W4.drew hcp S4.out.kp.drew).mono ?_; rintro e W7 ⟨q6, rfl, ha6, hb6, hc7, ho7⟩; have h7 : Only b W4 W7 := ⟨ho7.os, ho7.tape, ho7.output, ho7.size, ho7.block⟩; have hz7 : W7.heap.size = W4.heap.size := h7.size; have s7 := S4.out.only hbw hB h7 hc7; have b7 := Bo.only B4.out hbw h7; obtain ⟨_, _, _, _, _, _, _, t8, _⟩ := b7.bx.tb) | (go_simp; go_at_call 34; have hnl := el2.new1 W4 (.cells #[.int .i64 (-1), .int .i64 0, .int .i64 3, .int .i64 1000] 3); have s6a := S4.out.grown hBw hnl; have b6a := B4.out.keep hnl; have hcp : CurAt (W4.alloc (.cells #[.int .i64 (-1), .int .i64 0, .int .i64 3, .int .i64 1000] 3)).drew b a len cap := s6a.cur; refine (HK.out 7 (by omega) (W4.alloc (.cells #[.int .i64 (-1), .int .i64 0, .int .i64 3, .int .i64 1000] 3)).drew hcp s6a.kp.drew).mono ?_; rintro e W7 ⟨q6, rfl, ha6, hb6, hc7, ho7⟩; have h7 : Only b (W4.alloc (.cells #[.int .i64 (-1), .int .i64 0, .int .i64 3, .int .i64 1000] 3)) W7 := ⟨ho7.os, ho7.tape, ho7.output, ho7.size, ho7.block⟩; have hL7 : W7.heap[W4.heap.size]? = some (.cells #[.int .i64 (-1), .int .i64 0, .int .i64 3, .int .i64 1000] 3) := (h7.block W4.heap.size (by omega)).trans (heap_alloc_new W4 _); have s7 := s6a.only hbw hB h7 hc7; have b7 := Bo.only b6a hbw h7; obtain ⟨_, _, _, _, _, _, _, t8, _⟩ := b7.bx.tb) | (go_simp; go_at_call 72; have hnl := el2.new1 W7 (.cells #[.int .i64 (-1), .int .i64 0, .int .i64 3, .int .i64 1000] 3); have hll : (W7.alloc (.cells #[.int .i64 (-1), .int .i64 0, .int .i64 3, .int .i64 1000] 3)).heap[W4.heap.size]? = some (.cells #[.int .i64 (-1), .int .i64 0, .int .i64 3, .int .i64 1000] 3) := (by rw [← hz7]; exact heap_alloc_new W7 _); have s7a := s7.grown hBw hnl; have b7a := b7.keep hnl; refine (HP.out W4.heap.size 4 (-2) 1001 (W7.alloc (.cells #[.int .i64 (-1), .int .i64 0, .int .i64 3, .int .i64 1000] 3)) s7a.cur s7a.kp (by omega) (by omega) (by omega) (list_e hll)).mono ?_; rintro e W8 ⟨v8, rfl, hv81, hv82, hc8, ho8⟩; have s8 := s7a.only hbw hB ho8 hc8; have b8 := Bo.only b7a hbw ho8; have hbt8 := b8.lt; obtain ⟨_, _, _, _, _, _, _, q8t, _⟩ := b8.bx.tb; have hn8 := el2.new1 W8 (.cells #[.int .i64 q6, .int .i64 v8] 125); obtain ⟨A9, c9, W9, hr9, ho9, hg9, hb9⟩ := Go.Proofs.Ytdfhnngcddaccaa.ao.app_own (c := 1) _ (own_keep b8.own.1 hn8) (Go.Proofs.Ytdfhnngcddaccaa.ao.one_vs (boxed W8 ⟨q6, v8⟩ 125)) (by omega) (by have := b8.lt; simp; omega); obtain ⟨hx9, hB9, _⟩ := Go.Proofs.Ytdfhnngcddaccaa.ad.Bo.put7 (b8.keep hn8) ho9 hg9; obtain ⟨_, _, _, _, _, _, _, w8, _⟩ := hx9.tb; have f8 := hx9.fz 7) | (go_simp; go_at_call 72; refine (HP.out W4.heap.size 4 (-2) 1001 W7 s7.cur s7.kp (by omega) (by omega) (by omega) (list_e hL7)).mono ?_; rintro e W8 ⟨v8, rfl, hv81, hv82, hc8, ho8⟩; have s8 := s7.only hbw hB ho8 hc8; have b8 := Bo.only b7 hbw ho8; have hbt8 := b8.lt; obtain ⟨_, _, _, _, _, _, _, q8t, _⟩ := b8.bx.tb; have hn8 := el2.new1 W8 (.cells #[.int .i64 q6, .int .i64 v8] 125); obtain ⟨A9, c9, W9, hr9, ho9, hg9, hb9⟩ := Go.Proofs.Ytdfhnngcddaccaa.ao.app_own (c := 1) _ (own_keep b8.own.1 hn8) (Go.Proofs.Ytdfhnngcddaccaa.ao.one_vs (boxed W8 ⟨q6, v8⟩ 125)) (by omega) (by have := b8.lt; simp; omega); obtain ⟨hx9, hB9, _⟩ := Go.Proofs.Ytdfhnngcddaccaa.ad.Bo.put7 (b8.keep hn8) ho9 hg9; obtain ⟨_, _, _, _, _, _, _, w8, _⟩ := hx9.tb; have f8 := hx9.fz 7) | (refine Go.Proofs.Ytdfhnngcddaccaa.ao.step_append_run rfl (.tmp 43) (.tmp 50) 27 27 rfl _ _ (by simp [Act.eval, Act.put]) (by simp [Act.eval, Act.put]) hr9 ?_))
    all_goals
      have s9 := SF.row (s8.grown hBw hn8) hbw hBw (own_keep b8.own.1 hn8) (by decide) hg9
      have o9 := (Off.refl tb W9).setCell (p := ⟨tb, 7, none⟩) rfl (.slice A9 (n + 1) c9)
      have S9 := Lib.hid (s9.off hbw hBw (by omega) (by omega) (by omega) o9)
      have B9 := Lib.hid hB9
      clear s7 b7 s8 b8 hx9 hB9 s9 o9 t8 q8t w8 f8 ho9 hb9 hc7 ho7 hc8 ho8 h7 hn8 hg9 hr9
      obtain ⟨t0, t1, t2, t3, t4, t5, t6, t7, t8⟩ := B9.out.bx.tb
      obtain ⟨z0, z1, z2, z3, z4, z5, z6, z7, z8⟩ := S9.out.rz.tb
      have y0 := S9.out.rz.fz 0
      have y1 := S9.out.rz.fz 1
      have y2 := S9.out.rz.fz 2
      have y3 := S9.out.rz.fz 3
      have y4 := S9.out.rz.fz 4
      have y5 := S9.out.rz.fz 5
      have y6 := S9.out.rz.fz 6
      have y7 := S9.out.rz.fz 7
      have y8 := S9.out.rz.fz 8
      go_wp2_with fail
      clear t0 t1 t2 t3 t4 t5 t6 t7 t8 z0 z1 z2 z3 z4 z5 z6 z7 z8 y0 y1 y2 y3 y4 y5 y6 y7 y8
      have hF := fun W' hW => fin9 (W' := W') hbw hBw S9.out B9.out (show w.heap.size ≠ tb by omega) hW
      generalize hW : (((((((((World.setCell _ _ _).setCell _ _).setCell _ _).setCell _ _).setCell _ _).setCell _ _).setCell _ _).setCell _ _).setCell _ _) = W9
      obtain ⟨⟨e0, e1, e2, e3, e4, e5, e6, e7, e8⟩, hO, hcu, hkp⟩ := hF W9 hW
      exact bodyPost_ret (v := txv x (.slice A9 (n + 1) c9) (.slice A2 n2 c2)) (by simp [results, Try.results64, go_sem, e0, e1, e2, e3, e4, e5, e6, e7, e8]) rfl ⟨_, _, _, _, _, _, _, _, _, rfl, by omega, by omega, hO, hcu, hkp⟩
  have t4 : (q == 4) = false := by simp [h4]
  clear h4
  by_cases h5 : q = 5
  · have t5 : (q == 5) = true := by simp [h5]
    clear h5 hq1 hq2
    go_wp2_with fail
    obtain ⟨_, _, _, _, _, _, _, _, t8⟩ := B4.out.bx.tb
    have hbt := B4.out.lt
    have hcl := S4.out.cur.lt
    try go_wp2_with fail
    go_region_law (first | (go_simp; go_at_call 34; have hcp : CurAt W4.drew b a len cap := S4.out.cur; refine (HK.out 7 (by omega) W4.drew hcp S4.out.kp.drew).mono ?_; rintro e W7 ⟨q6, rfl, ha6, hb6, hc7, ho7⟩; have h7 : Only b W4 W7 := ⟨ho7.os, ho7.tape, ho7.output, ho7.size, ho7.block⟩; have hz7 : W7.heap.size = W4.heap.size := h7.size; have s7 := S4.out.only hbw hB h7 hc7; have b7 := Bo.only B4.out hbw h7; obtain ⟨_, _, _, _, _, _, _, _, t8⟩ := b7.bx.tb) | (go_simp; go_at_call 34; have hnl := el2.new1 W4 (.cells #[.int .i64 (-2), .int .i64 100, .int .i64 0] 3); have s6a := S4.out.grown hBw hnl; have b6a := B4.out.keep hnl; have hcp : CurAt (W4.alloc (.cells #[.int .i64 (-2), .int .i64 100, .int .i64 0] 3)).drew b a len cap := s6a.cur; refine (HK.out 7 (by omega) (W4.alloc (.cells #[.int .i64 (-2), .int .i64 100, .int .i64 0] 3)).drew hcp s6a.kp.drew).mono ?_; rintro e W7 ⟨q6, rfl, ha6, hb6, hc7, ho7⟩; have h7 : Only b (W4.alloc (.cells #[.int .i64 (-2), .int .i64 100, .int .i64 0] 3)) W7 := ⟨ho7.os, ho7.tape, ho7.output, ho7.size, ho7.block⟩; have hL7 : W7.heap[W4.heap.size]? = some (.cells #[.int .i64 (-2), .int .i64 100, .int .i64 0] 3) := (h7.block W4.heap.size (by omega)).trans (heap_alloc_new W4 _); have s7 := s6a.only hbw hB h7 hc7; have b7 := Bo.only b6a hbw h7; obtain ⟨_, _, _, _, _, _, _, _, t8⟩ := b7.bx.tb) | (go_simp; go_at_call 72; have hnl := el2.new1 W7 (.cells #[.int .i64 (-2), .int .i64 100, .int .i64 0] 3); have hll : (W7.alloc (.cells #[.int .i64 (-2), .int .i64 100, .int .i64 0] 3)).heap[W4.heap.size]? = some (.cells #[.int .i64 (-2), .int .i64 100, .int .i64 0] 3) := (by rw [← hz7]; exact heap_alloc_new W7 _); have s7a := s7.grown hBw hnl; have b7a := b7.keep hnl; refine (HP.out W4.heap.size 3 (-2) 1001 (W7.alloc (.cells #[.int .i64 (-2), .int .i64 100, .int .i64 0] 3)) s7a.cur s7a.kp (by omega) (by omega) (by omega) (list_f hll)).mono ?_; rintro e W8 ⟨v8, rfl, hv81, hv82, hc8, ho8⟩; have s8 := s7a.only hbw hB ho8 hc8; have b8 := Bo.only b7a hbw ho8; have hbt8 := b8.lt; obtain ⟨_, _, _, _, _, _, _, _, q8t⟩ := b8.bx.tb; have hn8 := el2.new1 W8 (.cells #[.int .i64 q6, .int .i64 v8] 81); obtain ⟨A9, c9, W9, hr9, ho9, hg9, hb9⟩ := Go.Proofs.Ytdfhnngcddaccaa.aow.app_own (c := 1) _ (own_keep b8.own.2 hn8) (Go.Proofs.Ytdfhnngcddaccaa.aow.one_vs (boxed W8 ⟨q6, v8⟩ 81)) (by omega) (by have := b8.lt; simp; omega); obtain ⟨hx9, hB9⟩ := Bo.put8 (b8.keep hn8) ho9 hg9; obtain ⟨_, _, _, _, _, _, _, _, w8⟩ := hx9.tb; have f8 := hx9.fz 8) | (go_simp; go_at_call 72; refine (HP.out W4.heap.size 3 (-2) 1001 W7 s7.cur s7.kp (by omega) (by omega) (by omega) (list_f hL7)).mono ?_; rintro e W8 ⟨v8, rfl, hv81, hv82, hc8, ho8⟩; have s8 := s7.only hbw hB ho8 hc8; have b8 := Bo.only b7 hbw ho8; have hbt8 := b8.lt; obtain ⟨_, _, _, _, _, _, _, _, q8t⟩ := b8.bx.tb; have hn8 := el2.new1 W8 (.cells #[.int .i64 q6, .int .i64 v8] 81); obtain ⟨A9, c9, W9, hr9, ho9, hg9, hb9⟩ := Go.Proofs.Ytdfhnngcddaccaa.aow.app_own (c := 1) _ (own_keep b8.own.2 hn8) (Go.Proofs.Ytdfhnngcddaccaa.aow.one_vs (boxed W8 ⟨q6, v8⟩ 81)) (by omega) (by have := b8.lt; simp; omega); obtain ⟨hx9, hB9⟩ := Bo.put8 (b8.keep hn8) ho9 hg9; obtain ⟨_, _, _, _, _, _, _, _, w8⟩ := hx9.tb; have f8 := hx9.fz 8) | (refine Go.Proofs.Ytdfhnngcddaccaa.ao.step_append_run rfl (.tmp 56) (.tmp 63) 28 28 rfl _ _ (by simp [Act.eval, Act.put]) (by simp [Act.eval, Act.put]) hr9 ?_))
    all_goals
      have s9 := SF.row (s8.grown hBw hn8) hbw hBw (own_keep b8.own.2 hn8) (by decide) hg9
      have o9 := (Off.refl tb W9).setCell (p := ⟨tb, 8, none⟩) rfl (.slice A9 (n2 + 1) c9)
      have S9 := Lib.hid (s9.off hbw hBw (by omega) (by omega) (by omega) o9)
      have B9 := Lib.hid hB9
      clear s7 b7 s8 b8 hx9 hB9 s9 o9 t8 q8t w8 f8 ho9 hb9 hc7 ho7 hc8 ho8 h7 hn8 hg9 hr9
      obtain ⟨t0, t1, t2, t3, t4, t5, t6, t7, t8⟩ := B9.out.bx.tb
      obtain ⟨z0, z1, z2, z3, z4, z5, z6, z7, z8⟩ := S9.out.rz.tb
      have y0 := S9.out.rz.fz 0
      have y1 := S9.out.rz.fz 1
      have y2 := S9.out.rz.fz 2
      have y3 := S9.out.rz.fz 3
      have y4 := S9.out.rz.fz 4
      have y5 := S9.out.rz.fz 5
      have y6 := S9.out.rz.fz 6
      have y7 := S9.out.rz.fz 7
      have y8 := S9.out.rz.fz 8
      go_wp2_with fail
      clear t0 t1 t2 t3 t4 t5 t6 t7 t8 z0 z1 z2 z3 z4 z5 z6 z7 z8 y0 y1 y2 y3 y4 y5 y6 y7 y8
      have hF := fun W' hW => fin9 (W' := W') hbw hBw S9.out B9.out (show w.heap.size ≠ tb by omega) hW
      generalize hW : (((((((((World.setCell _ _ _).setCell _ _).setCell _ _).setCell _ _).setCell _ _).setCell _ _).setCell _ _).setCell _ _).setCell _ _) = W9
      obtain ⟨⟨e0, e1, e2, e3, e4, e5, e6, e7, e8⟩, hO, hcu, hkp⟩ := hF W9 hW
      exact bodyPost_ret (v := txv x (.slice A n c) (.slice A9 (n2 + 1) c9)) (by simp [results, Try.results64, go_sem, e0, e1, e2, e3, e4, e5, e6, e7, e8]) rfl ⟨_, _, _, _, _, _, _, _, _, rfl, by omega, by omega, hO, hcu, hkp⟩
  have t5 : (q == 5) = false := by simp [h5]
  clear h5
  obtain ⟨t0, t1, t2, t3, t4, t5, t6, t7, t8⟩ := B4.out.bx.tb
  obtain ⟨z0, z1, z2, z3, z4, z5, z6, z7, z8⟩ := S4.out.rz.tb
  have y0 := S4.out.rz.fz 0
  have y1 := S4.out.rz.fz 1
  have y2 := S4.out.rz.fz 2
  have y3 := S4.out.rz.fz 3
  have y4 := S4.out.rz.fz 4
  have y5 := S4.out.rz.fz 5
  have y6 := S4.out.rz.fz 6
  have y7 := S4.out.rz.fz 7
  have y8 := S4.out.rz.fz 8
  go_wp2_with fail
  clear t0 t1 t2 t3 t4 t5 t6 t7 t8 z0 z1 z2 z3 z4 z5 z6 z7 z8 y0 y1 y2 y3 y4 y5 y6 y7 y8
  have hF := fun W' hW => fin9 (W' := W') hbw hBw S4.out B4.out (show w.heap.size ≠ tb by omega) hW
  generalize hW : (((((((((World.setCell _ _ _).setCell _ _).setCell _ _).setCell _ _).setCell _ _).setCell _ _).setCell _ _).setCell _ _).setCell _ _) = W9
  obtain ⟨⟨e0, e1, e2, e3, e4, e5, e6, e7, e8⟩, hO, hcu, hkp⟩ := hF W9 hW
  exact bodyPost_ret (v := txv x (.slice A n c) (.slice A2 n2 c2)) (by simp [results, Try.results64, go_sem, e0, e1, e2, e3, e4, e5, e6, e7, e8]) rfl ⟨_, _, _, _, _, _, _, _, _, rfl, by omega, by omega, hO, hcu, hkp⟩
end Go.Proofs.Ytdfhnngcddaccaa.dany
