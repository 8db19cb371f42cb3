/- Marks on a transaction that a call made. -/
import Derived.Test.YthbbpfgjbidbhaaGreatDoorOw2
import Derived.Test.YthbbpfgjbidbhaaGreatDoorTx
import Derived.WalkKit
import Derived.ProofKit
import Derived.Below
import Derived.Carry
import Derived.Lib.Hide
namespace Go.Proofs.YthbbpfgjbidbhaaGreatDoor.tm
open Go.ChangeShapes Go.WideShapes Go.ChangeAt Go.RowKit
open Go.Proofs.YthbbpfgjbidbhaaGreatDoor.el2 Go.Proofs.YthbbpfgjbidbhaaGreatDoor.fr Go.Proofs.YthbbpfgjbidbhaaGreatDoor.ow2 Go.Proofs.YthbbpfgjbidbhaaGreatDoor.tx
set_option linter.unusedVariables false
theorem TB.fr {w w' : World} {b lo hi : Nat} {x : Hd} {u v : Value} (h : TB w b x u v) (hf : FR lo hi w w') (hd : b < lo ∨ hi ≤ b) (hs : b < w.heap.size) : TB w' b x u v := h.of_block (hf.block b hs hd)
theorem At.fr {w w' : World} {b o lo hi : Nat} {x : E2} (h : At w b o x) (hf : FR lo hi w w') (hd : b < lo ∨ hi ≤ b) (hs : b < w.heap.size) : At w' b o x := h.of_block (hf.block b hs hd)
/-- the two slices of a transaction: owned, marked -/
def OwT (w : World) (lo hi : Nat) (A : Option Addr) (n : Nat) (R : List E2) (A2 : Option Addr) (n2 : Nat) (S : List E2) : Prop := OwS 78 w lo hi A n R ∧ OwS 75 w lo hi A2 n2 S
def MkT (w : World) (lo hi : Nat) (A : Option Addr) (n : Nat) (A2 : Option Addr) (n2 : Nat) : Prop := MkS 78 w lo hi A n 1 ∧ MkS 75 w lo hi A2 n2 (1 + (n * 2 : Nat))
theorem OwT.fr {w w' : World} {lo hi a b n n2 : Nat} {A A2 : Option Addr} {R S : List E2} (h : OwT w lo hi A n R A2 n2 S) (hf : FR a b w w') (hd : hi ≤ a ∨ b ≤ lo) (hs : hi ≤ w.heap.size) : OwT w' lo hi A n R A2 n2 S := ⟨h.1.fr hf hd hs, h.2.fr hf hd hs⟩
theorem MkT.fr {w w' : World} {lo hi a b n n2 : Nat} {A A2 : Option Addr} (h : MkT w lo hi A n A2 n2) (hf : FR a b w w') (hd : hi ≤ a ∨ b ≤ lo) (hs : hi ≤ w.heap.size) : MkT w' lo hi A n A2 n2 := ⟨h.1.fr hf hd hs, h.2.fr hf hd hs⟩
theorem row_ne {w : World} {g g2 M M2 : Nat} {f f2 : Nat → Value} {t t2 : TypeId} (h : w.rowIs g t M f) (h2 : w.rowIs g2 t2 M2 f2) (ht : t ≠ t2) : g ≠ g2 := by
  rintro rfl
  obtain ⟨c, hc, _⟩ := h
  obtain ⟨c2, hc2, _⟩ := h2
  rw [hc] at hc2
  injection hc2 with e
  injection e with _ e2
  exact ht e2
set_option maxHeartbeats 800000 in
theorem mark_tx {w : World} {lo hi n c n2 c2 : Nat} {A A2 : Option Addr} {R S : List E2} (x : Hd) (hn : n ≤ 1048576) (hn2 : n2 ≤ 1048576) (h : OwT w lo hi A n R A2 n2 S) (hw : hi ≤ w.heap.size) :
    Calls Tryz.prog 13 #[.agg #[.int .i64 x.i, .int .i64 x.s, .int .i64 x.t, .int .i64 x.b, .int .i64 x.l, .int .i64 x.h, .int .i64 x.c, .slice A n c, .slice A2 n2 c2], .int .i64 1] w fun e w' => e = .returned (.int .i64 (1 + (n * 2 : Nat) + (n2 * 2 : Nat))) ∧ MkT w' lo hi A n A2 n2 ∧ FR lo hi w w' := by
  have H1 := Lib.hid h.1
  have H2 := Lib.hid h.2
  clear h
  go_enter Tryz.func13, Tryz.ntmps13
  go_wp2_with fail
  have hb := new1 w (.cells #[.int .i64 x.i, .int .i64 x.s, .int .i64 x.t, .int .i64 x.b, .int .i64 x.l, .int .i64 x.h, .int .i64 x.c, .slice A n c, .slice A2 n2 c2] 37)
  have tb := TB.new w x A n c A2 n2 c2 37
  have hs : (w.alloc (.cells #[.int .i64 x.i, .int .i64 x.s, .int .i64 x.t, .int .i64 x.b, .int .i64 x.l, .int .i64 x.h, .int .i64 x.c, .slice A n c, .slice A2 n2 c2] 37)).heap.size = w.heap.size + 1 := by simp
  generalize w.alloc (.cells #[.int .i64 x.i, .int .i64 x.s, .int .i64 x.t, .int .i64 x.b, .int .i64 x.l, .int .i64 x.h, .int .i64 x.c, .slice A n c, .slice A2 n2 c2] 37) = W0 at hb tb hs ⊢
  have HF0 : Hid (FR lo hi w W0) := Lib.hid (FR.of_below hb)
  have h1 := H1.out.fr (FR.of_below (lo := hi) (hi := hi) hb) (.inl (Nat.le_refl _)) hw
  have h2 := H2.out.fr (FR.of_below (lo := hi) (hi := hi) hb) (.inl (Nat.le_refl _)) hw
  clear H1 H2 hb
  have hne : ∀ g g2, A = some ⟨g, 0, none⟩ → 0 < n → A2 = some ⟨g2, 0, none⟩ → 0 < n2 → g ≠ g2 := by
    intro g g2 e p e2 p2
    obtain ⟨g', M, f, e', _, _, hr, _⟩ := h1.2 p
    obtain ⟨g2', M2, f2, e2', _, _, hr2, _⟩ := h2.2 p2
    rw [e] at e'
    rw [e2] at e2'
    injection e' with e'
    injection e2' with e2'
    injection e' with e'
    injection e2' with e2'
    subst e' e2'
    exact row_ne hr hr2 (by decide)
  have HN := Lib.hid hne
  have HT2 := Lib.hid h2
  have HT := Lib.hid tb
  clear hne h2 tb
  refine (mark_r (by omega) (by omega) hn h1).mono ?_
  rintro e W1 ⟨rfl, hm, hf, hz, hk⟩
  have hbl : ∀ k, w.heap.size ≤ k → W1.heap[k]? = W0.heap[k]? := fun k hge => hk k fun g e p => by
    obtain ⟨g', M, f, e', _, hlt, _⟩ := h1.2 p
    rw [e] at e'
    injection e' with e'
    injection e' with e'
    omega
  obtain ⟨t0, t1, t2, t3, t4, t5, t6, t7, t8⟩ := HT.out.of_block (hbl _ (Nat.le_refl _))
  have h2 : OwS 75 W1 lo hi A2 n2 S := ⟨HT2.out.1, fun p2 => by
    obtain ⟨g2, M2, f2, e2, a1, a2, hr2, hM2⟩ := HT2.out.2 p2
    exact ⟨g2, M2, f2, e2, a1, a2, hr2.of_block (hk g2 fun g e p => (HN.out g g2 e p e2 p2).symm), hM2⟩⟩
  have HF1 : Hid (FR lo hi w W1) := Lib.hid (HF0.out.trans hf)
  have HM := Lib.hid hm
  have H2 := Lib.hid h2
  have hz1 : W1.heap.size = w.heap.size + 1 := by omega
  clear hm hf hk hbl h2 HT HT2 hz t0 t1 t2 t3 t4 t5 t6 t7
  obtain ⟨k1, hk1⟩ : ∃ k1 : Int, k1 = 1 + ((n * 2 : Nat) : Int) := ⟨_, rfl⟩
  rw [← hk1]
  have HK := Lib.hid hk1
  have k10 : 0 ≤ k1 := by omega
  have k11 : k1 ≤ 1152921504606846976 := by omega
  clear hk1
  go_wp2_with fail
  refine (mark_w k10 k11 hn2 H2.out).mono ?_
  rintro e W2 ⟨rfl, hm, hf, hz, hk⟩
  have hm1 : MkS 78 W2 lo hi A n 1 := fun p => by
    obtain ⟨g, M, e, a1, a2, hM, hmk⟩ := HM.out p
    exact ⟨g, M, e, a1, a2, hM, hmk.of_block (hk g fun g2 e2 p2 => HN.out g g2 e p e2 p2)⟩
  rw [HK.out] at hm
  have HF2 : Hid (FR lo hi w W2) := Lib.hid (HF1.out.trans hf)
  have HR := Lib.hid (show MkT W2 lo hi A n A2 n2 from ⟨hm1, hm⟩)
  clear hm hm1 hf hk
  go_wp2_with fail
  go_ret
  exact ⟨ret_i (by have := HK.out; omega), HR.out, HF2.out⟩
set_option maxHeartbeats 800000 in
theorem held_tx {w : World} {lo hi n c n2 c2 : Nat} {A A2 : Option Addr} (x : Hd) (hn : n ≤ 1048576) (hn2 : n2 ≤ 1048576) (h : MkT w lo hi A n A2 n2) (hw : hi ≤ w.heap.size) :
    Calls Tryz.prog 15 #[.agg #[.int .i64 x.i, .int .i64 x.s, .int .i64 x.t, .int .i64 x.b, .int .i64 x.l, .int .i64 x.h, .int .i64 x.c, .slice A n c, .slice A2 n2 c2], .int .i64 1] w fun e w' => e = .returned (.int .i64 (1 + (n * 2 : Nat) + (n2 * 2 : Nat))) ∧ Below w.heap.size w w' := by
  have H1 := Lib.hid h.1
  have H2 := Lib.hid h.2
  clear h
  obtain ⟨k1, hk1⟩ : ∃ k1 : Int, k1 = 1 + ((n * 2 : Nat) : Int) := ⟨_, rfl⟩
  have t1 : decide (k1 < 0) = false := decide_eq_false (by omega)
  have t2 : decide (k1 + ((n2 * 2 : Nat) : Int) < 0) = false := decide_eq_false (by omega)
  have k10 : 0 ≤ k1 := by omega
  have k11 : k1 ≤ 1152921504606846976 := by omega
  have HK := Lib.hid hk1
  clear hk1
  go_enter Tryz.func15, Tryz.ntmps15
  go_wp2_with fail
  have hb := new1 w (.cells #[.int .i64 x.i, .int .i64 x.s, .int .i64 x.t, .int .i64 x.b, .int .i64 x.l, .int .i64 x.h, .int .i64 x.c, .slice A n c, .slice A2 n2 c2] 37)
  have tb := TB.new w x A n c A2 n2 c2 37
  generalize w.alloc (.cells #[.int .i64 x.i, .int .i64 x.s, .int .i64 x.t, .int .i64 x.b, .int .i64 x.l, .int .i64 x.h, .int .i64 x.c, .slice A n c, .slice A2 n2 c2] 37) = W0 at hb tb ⊢
  have h1 := H1.out.fr (FR.of_below (lo := hi) (hi := hi) hb) (.inl (Nat.le_refl _)) hw
  have h2 := Lib.hid (H2.out.fr (FR.of_below (lo := hi) (hi := hi) hb) (.inl (Nat.le_refl _)) hw)
  have HB := Lib.hid hb
  obtain ⟨t0, t1', t2', t3, t4, t5, t6, t7, t8⟩ := tb
  clear H1 H2 hb t0 t1' t2' t3 t4 t5 t6 t7
  refine (held_r (by omega) (by omega) hn h1).mono ?_
  rintro e W ⟨rfl, rfl⟩
  rw [← HK.out]
  clear h1
  go_wp2_with fail
  refine (held_w k10 k11 hn2 (by have := h2.out; rw [← HK.out] at this; exact this)).mono ?_
  rintro e W ⟨rfl, rfl⟩
  go_wp2_with fail
  go_ret
  exact ⟨ret_i (by have := HK.out; omega), HB.out⟩
/-- the copy, owned -/
theorem own_tx {w : World} {B n c n2 c2 : Nat} {A A2 : Option Addr} {R S : List E2} (x : Hd) (hn : n ≤ 2097152) (hn2 : n2 ≤ 2097152) (h1 : Vs w B A n R) (h2 : Vs w B A2 n2 S) (hB : B ≤ w.heap.size) :
    Calls Tryz.prog 8 #[.agg #[.int .i64 x.i, .int .i64 x.s, .int .i64 x.t, .int .i64 x.b, .int .i64 x.l, .int .i64 x.h, .int .i64 x.c, .slice A n c, .slice A2 n2 c2]] w fun e w' => ∃ N M, e = .returned (.agg #[.int .i64 x.i, .int .i64 x.s, .int .i64 x.t, .int .i64 x.b, .int .i64 x.l, .int .i64 x.h, .int .i64 x.c, .slice (some ⟨N, 0, none⟩) n n, .slice (some ⟨M, 0, none⟩) n2 n2]) ∧ OwT w' w.heap.size w'.heap.size (some ⟨N, 0, none⟩) n R (some ⟨M, 0, none⟩) n2 S ∧ Below w.heap.size w w' :=
  (copy_tx x hn hn2 h1 h2 hB).mono fun e w' ⟨N, M, he, hN, hNM, hM, r1, r2, hb⟩ => ⟨N, M, he, ⟨OwS.of_row r1 h1.1 hN (by omega), OwS.of_row r2 h2.1 (by omega) hM⟩, hb⟩
end Go.Proofs.YthbbpfgjbidbhaaGreatDoor.tm
