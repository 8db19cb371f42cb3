/- What a law does with memory: owned copies of a store; marks of a store, of a transaction, of a list of reads. -/
import Derived.Test.YtjnlbhmddhpmaaaTm
import Derived.Test.YtjnlbhmddhpmaaaMarkS
namespace Go.Proofs.Ytjnlbhmddhpmaaa.lw
open Go.ChangeShapes Go.WideShapes Go.ChangeAt Go.RowKit
open Go.Proofs.Ytjnlbhmddhpmaaa.el2 Go.Proofs.Ytjnlbhmddhpmaaa.tx Go.Proofs.Ytjnlbhmddhpmaaa.fr Go.Proofs.Ytjnlbhmddhpmaaa.ow2 Go.Proofs.Ytjnlbhmddhpmaaa.tm
open Go.Proofs.Ytjnlbhmddhpmaaa.sl (Ver)
open Go.Proofs.Ytjnlbhmddhpmaaa.st (Rs RR cnt)
set_option linter.unusedVariables false
set_option linter.unusedSimpArgs false
/-- a store's copy: its memory lies between lo and hi, and nothing of it has changed -/
def OwR (w : World) (lo hi : Nat) (N n : Nat) (ll : List (List Ver)) : Prop := ∃ v : World, RR v N n ll n ∧ ll.length = n ∧ lo ≤ N ∧ v.heap.size ≤ hi ∧ Below v.heap.size v w
theorem OwR.fr {w w' : World} {lo hi a b N n : Nat} {ll : List (List Ver)} (h : OwR w lo hi N n ll) (hf : FR a b w w') (hd : hi ≤ a ∨ b ≤ lo ∧ b = 0) (hs : hi ≤ w.heap.size) : OwR w' lo hi N n ll := by
  obtain ⟨v, h1, h2, h3, h4, h5⟩ := h
  refine ⟨v, h1, h2, h3, h4, h5.trans ⟨hf.os, hf.tape, hf.output, hf.size, fun k hk => hf.block k (by omega) (by omega)⟩⟩
theorem own_store {w : World} {B n c : Nat} {A : Option Addr} {ll : List (List Ver)} (hn : n ≤ 2097152) (hc : cnt ll ≤ 2097152) (h1 : Rs w B A n ll) (hB : B ≤ w.heap.size) :
    Calls Try.prog 51 #[.agg #[.slice A n c]] w fun e w' => ∃ N, e = .returned (.agg #[.slice (some ⟨N, 0, none⟩) n n]) ∧ OwR w' w.heap.size w'.heap.size N n ll ∧ Rs w' w'.heap.size (some ⟨N, 0, none⟩) n ll ∧ Below w.heap.size w w' :=
  (Go.Proofs.Ytjnlbhmddhpmaaa.st.copy_storeR hn hc h1 hB).mono fun e w' h => by
    obtain ⟨N, he, hN, hr, hb⟩ := h
    exact ⟨N, he, ⟨w', hr, h1.1, hN, Nat.le_refl _, Below.refl _ _⟩, hr.rs h1.1 (by omega), hb⟩
theorem mark_st {w : World} {lo hi N n c : Nat} {ll : List (List Ver)} (hn : n ≤ 1048576) (hc : cnt ll ≤ 1048576) (h : OwR w lo hi N n ll) (hw : hi ≤ w.heap.size) :
    Calls Try.prog 39 #[.agg #[.slice (some ⟨N, 0, none⟩) n c], .int .i64 1] w fun e w' => e = .returned (.int .i64 (1 + ((cnt ll * 5 : Nat) : Int))) ∧ FR lo hi w w' := by
  obtain ⟨v, h1, h2, h3, h4, h5⟩ := h
  exact (Go.Proofs.Ytjnlbhmddhpmaaa.marks.mark_store (by omega) (by omega) h2 hn hc (Go.Proofs.Ytjnlbhmddhpmaaa.marks.MS.of_rr h1 h2 1) h5).mono fun e w' h => by
    obtain ⟨he, _, hs, ho, ht, hp, hk⟩ := h
    exact ⟨he, ho, ht, hp, hs, fun k hk1 hk2 => hk k (by omega) hk1⟩
theorem mark_l {w : World} {lo hi n c : Nat} {A : Option Addr} {l : List E2} (hn : n ≤ 1048576) (h : OwS 122 w lo hi A n l) (hw : hi ≤ w.heap.size) :
    Calls Try.prog 79 #[.slice A n c, .int .i64 1] w fun e w' => e = .returned (.int .i64 (1 + ((n * 2 : Nat) : Int))) ∧ MkS 122 w' lo hi A n 1 ∧ FR lo hi w w' :=
  (mark_r (by omega) (by omega) hn h).mono fun e w' ⟨he, hm, hf, _⟩ => ⟨he, hm, hf⟩
theorem held_l {w : World} {lo hi n c : Nat} {A : Option Addr} (hn : n ≤ 1048576) (h : MkS 122 w lo hi A n 1) (hw : hi ≤ w.heap.size) :
    Calls Try.prog 82 #[.slice A n c, .int .i64 1] w fun e w' => e = .returned (.int .i64 (1 + ((n * 2 : Nat) : Int))) ∧ Below w.heap.size w w' :=
  (held_r (by omega) (by omega) hn h).mono fun e w' ⟨he, hw⟩ => ⟨he, by rw [← hw]; exact Below.refl _ _⟩
theorem same_l {w : World} {n c c2 : Nat} {A A2 : Option Addr} {l : List E2} (hn : n ≤ 140737488355328) (h1 : Vs w w.heap.size A n l) (h2 : Vs w w.heap.size A2 n l) :
    Calls Try.prog 97 #[.slice A n c, .slice A2 n c2] w fun e w' => e = .returned (.bool true) ∧ Below w.heap.size w w' :=
  Go.Proofs.Ytjnlbhmddhpmaaa.rReadMark.same hn h1 h2 (Nat.le_refl _)
end Go.Proofs.Ytjnlbhmddhpmaaa.lw
