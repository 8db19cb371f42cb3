/- What a law does with memory: owned copies of a store; marks of a store, of a transaction, of a list of reads. -/
import Derived.Test.YthbbpfgjbidbhaaGreatDoorTm
import Derived.Test.YthbbpfgjbidbhaaGreatDoorMarkS
namespace Go.Proofs.YthbbpfgjbidbhaaGreatDoor.lw
open Go.ChangeShapes Go.WideShapes Go.ChangeAt Go.RowKit
open Go.Proofs.YthbbpfgjbidbhaaGreatDoor.el2 Go.Proofs.YthbbpfgjbidbhaaGreatDoor.tx Go.Proofs.YthbbpfgjbidbhaaGreatDoor.fr Go.Proofs.YthbbpfgjbidbhaaGreatDoor.ow2 Go.Proofs.YthbbpfgjbidbhaaGreatDoor.tm
open Go.Proofs.YthbbpfgjbidbhaaGreatDoor.sl (Ver)
open Go.Proofs.YthbbpfgjbidbhaaGreatDoor.st (Rs RR cnt)
set_option linter.unusedVariables false
set_option linter.unusedSimpArgs false
set_option maxHeartbeats 800000 in
theorem mark_txk {w : World} {lo hi n c n2 c2 : Nat} {A A2 : Option Addr} {R S : List E2} (x : Hd) {k0 : Int} (h0 : 0 ≤ k0) (hk0 : k0 ≤ 1125899906842624) (hn : n ≤ 1048576) (hn2 : n2 ≤ 1048576) (h : OwT w lo hi A n R A2 n2 S) (hw : hi ≤ w.heap.size) :
    Calls Tryz.prog 13 #[.agg #[.int .i64 x.i, .int .i64 x.s, .int .i64 x.t, .int .i64 x.b, .int .i64 x.l, .int .i64 x.h, .int .i64 x.c, .slice A n c, .slice A2 n2 c2], .int .i64 k0] w fun e w' => e = .returned (.int .i64 (k0 + (n * 2 : Nat) + (n2 * 2 : Nat))) ∧ FR lo hi w w' := by
  have H1 := Lib.hid h.1
  have H2 := Lib.hid h.2
  clear h
  go_enter Tryz.func13, Tryz.ntmps13
  go_wp2_with fail
  have hb := new1 w (.cells #[.int .i64 x.i, .int .i64 x.s, .int .i64 x.t, .int .i64 x.b, .int .i64 x.l, .int .i64 x.h, .int .i64 x.c, .slice A n c, .slice A2 n2 c2] 37)
  have tb := TB.new w x A n c A2 n2 c2 37
  have hs : (w.alloc (.cells #[.int .i64 x.i, .int .i64 x.s, .int .i64 x.t, .int .i64 x.b, .int .i64 x.l, .int .i64 x.h, .int .i64 x.c, .slice A n c, .slice A2 n2 c2] 37)).heap.size = w.heap.size + 1 := by simp
  generalize w.alloc (.cells #[.int .i64 x.i, .int .i64 x.s, .int .i64 x.t, .int .i64 x.b, .int .i64 x.l, .int .i64 x.h, .int .i64 x.c, .slice A n c, .slice A2 n2 c2] 37) = W0 at hb tb hs ⊢
  have HF0 : Hid (FR lo hi w W0) := Lib.hid (FR.of_below hb)
  have h1 := H1.out.fr (FR.of_below (lo := hi) (hi := hi) hb) (.inl (Nat.le_refl _)) hw
  have h2 := H2.out.fr (FR.of_below (lo := hi) (hi := hi) hb) (.inl (Nat.le_refl _)) hw
  clear H1 H2 hb
  have hne : ∀ g g2, A = some ⟨g, 0, none⟩ → 0 < n → A2 = some ⟨g2, 0, none⟩ → 0 < n2 → g ≠ g2 := by
    intro g g2 e p e2 p2
    obtain ⟨g', M, f, e', _, _, hr, _⟩ := h1.2 p
    obtain ⟨g2', M2, f2, e2', _, _, hr2, _⟩ := h2.2 p2
    rw [e] at e'
    rw [e2] at e2'
    injection e' with e'
    injection e2' with e2'
    injection e' with e'
    injection e2' with e2'
    subst e' e2'
    exact row_ne hr hr2 (by decide)
  have HN := Lib.hid hne
  have HT2 := Lib.hid h2
  have HT := Lib.hid tb
  clear hne h2 tb
  refine (mark_r h0 (by omega) hn h1).mono ?_
  rintro e W1 ⟨rfl, hm, hf, hz, hk⟩
  have hbl : ∀ k, w.heap.size ≤ k → W1.heap[k]? = W0.heap[k]? := fun k hge => hk k fun g e p => by
    obtain ⟨g', M, f, e', _, hlt, _⟩ := h1.2 p
    rw [e] at e'
    injection e' with e'
    injection e' with e'
    omega
  obtain ⟨t0, t1, t2, t3, t4, t5, t6, t7, t8⟩ := HT.out.of_block (hbl _ (Nat.le_refl _))
  have h2 : OwS 75 W1 lo hi A2 n2 S := ⟨HT2.out.1, fun p2 => by
    obtain ⟨g2, M2, f2, e2, a1, a2, hr2, hM2⟩ := HT2.out.2 p2
    exact ⟨g2, M2, f2, e2, a1, a2, hr2.of_block (hk g2 fun g e p => (HN.out g g2 e p e2 p2).symm), hM2⟩⟩
  have HF1 : Hid (FR lo hi w W1) := Lib.hid (HF0.out.trans hf)
  have HM := Lib.hid hm
  have H2 := Lib.hid h2
  have hz1 : W1.heap.size = w.heap.size + 1 := by omega
  clear hm hf hk hbl h2 HT HT2 hz t0 t1 t2 t3 t4 t5 t6 t7
  obtain ⟨k1, hk1⟩ : ∃ k1 : Int, k1 = k0 + ((n * 2 : Nat) : Int) := ⟨_, rfl⟩
  rw [← hk1]
  have HK := Lib.hid hk1
  have k10 : 0 ≤ k1 := by omega
  have k11 : k1 ≤ 1152921504606846976 := by omega
  clear hk1
  go_wp2_with fail
  refine (mark_w k10 k11 hn2 H2.out).mono ?_
  rintro e W2 ⟨rfl, hm, hf, hz, hk⟩
  have HF2 : Hid (FR lo hi w W2) := Lib.hid (HF1.out.trans hf)
  clear hm hf hk
  go_wp2_with fail
  go_ret
  exact ⟨ret_i (by have := HK.out; omega), HF2.out⟩

/-- a store's copy: its memory lies between lo and hi, and nothing of it has changed -/
def OwR (w : World) (lo hi : Nat) (N n : Nat) (ll : List (List Ver)) : Prop := ∃ v : World, RR v N n ll n ∧ ll.length = n ∧ lo ≤ N ∧ v.heap.size ≤ hi ∧ Below v.heap.size v w
theorem OwR.fr {w w' : World} {lo hi a b N n : Nat} {ll : List (List Ver)} (h : OwR w lo hi N n ll) (hf : FR a b w w') (hd : hi ≤ a ∨ b ≤ lo ∧ b = 0) (hs : hi ≤ w.heap.size) : OwR w' lo hi N n ll := by
  obtain ⟨v, h1, h2, h3, h4, h5⟩ := h
  refine ⟨v, h1, h2, h3, h4, h5.trans ⟨hf.os, hf.tape, hf.output, hf.size, fun k hk => hf.block k (by omega) (by omega)⟩⟩
theorem own_store {w : World} {B n c : Nat} {A : Option Addr} {ll : List (List Ver)} (hn : n ≤ 2097152) (hc : cnt ll ≤ 2097152) (h1 : Rs w B A n ll) (hB : B ≤ w.heap.size) :
    Calls Tryz.prog 7 #[.agg #[.slice A n c]] w fun e w' => ∃ N, e = .returned (.agg #[.slice (some ⟨N, 0, none⟩) n n]) ∧ OwR w' w.heap.size w'.heap.size N n ll ∧ Rs w' w'.heap.size (some ⟨N, 0, none⟩) n ll ∧ Below w.heap.size w w' :=
  (Go.Proofs.YthbbpfgjbidbhaaGreatDoor.st.copy_storeR hn hc h1 hB).mono fun e w' h => by
    obtain ⟨N, he, hN, hr, hb⟩ := h
    exact ⟨N, he, ⟨w', hr, h1.1, hN, Nat.le_refl _, Below.refl _ _⟩, hr.rs h1.1 (by omega), hb⟩
theorem mark_st {w : World} {lo hi N n c : Nat} {ll : List (List Ver)} (hn : n ≤ 1048576) (hc : cnt ll ≤ 1048576) (h : OwR w lo hi N n ll) (hw : hi ≤ w.heap.size) :
    Calls Tryz.prog 12 #[.agg #[.slice (some ⟨N, 0, none⟩) n c], .int .i64 1] w fun e w' => e = .returned (.int .i64 (1 + ((cnt ll * 5 : Nat) : Int))) ∧ FR lo hi w w' := by
  obtain ⟨v, h1, h2, h3, h4, h5⟩ := h
  exact (Go.Proofs.YthbbpfgjbidbhaaGreatDoor.marks.mark_store (by omega) (by omega) h2 hn hc (Go.Proofs.YthbbpfgjbidbhaaGreatDoor.marks.MS.of_rr h1 h2 1) h5).mono fun e w' h => by
    obtain ⟨he, _, hs, ho, ht, hp, hk⟩ := h
    exact ⟨he, ho, ht, hp, hs, fun k hk1 hk2 => hk k (by omega) hk1⟩
theorem mark_l {w : World} {lo hi n c : Nat} {A : Option Addr} {l : List E2} (hn : n ≤ 1048576) (h : OwS 78 w lo hi A n l) (hw : hi ≤ w.heap.size) :
    Calls Tryz.prog 36 #[.slice A n c, .int .i64 1] w fun e w' => e = .returned (.int .i64 (1 + ((n * 2 : Nat) : Int))) ∧ MkS 78 w' lo hi A n 1 ∧ FR lo hi w w' :=
  (mark_r (by omega) (by omega) hn h).mono fun e w' ⟨he, hm, hf, _⟩ => ⟨he, hm, hf⟩
theorem held_l {w : World} {lo hi n c : Nat} {A : Option Addr} (hn : n ≤ 1048576) (h : MkS 78 w lo hi A n 1) (hw : hi ≤ w.heap.size) :
    Calls Tryz.prog 39 #[.slice A n c, .int .i64 1] w fun e w' => e = .returned (.int .i64 (1 + ((n * 2 : Nat) : Int))) ∧ Below w.heap.size w w' :=
  (held_r (by omega) (by omega) hn h).mono fun e w' ⟨he, hw⟩ => ⟨he, by rw [← hw]; exact Below.refl _ _⟩
theorem same_l {w : World} {n c c2 : Nat} {A A2 : Option Addr} {l : List E2} (hn : n ≤ 140737488355328) (h1 : Vs w w.heap.size A n l) (h2 : Vs w w.heap.size A2 n l) :
    Calls Tryz.prog 33 #[.slice A n c, .slice A2 n c2] w fun e w' => e = .returned (.bool true) ∧ Below w.heap.size w w' :=
  Go.Proofs.YthbbpfgjbidbhaaGreatDoor.rReadMark.same hn h1 h2 (Nat.le_refl _)
end Go.Proofs.YthbbpfgjbidbhaaGreatDoor.lw
