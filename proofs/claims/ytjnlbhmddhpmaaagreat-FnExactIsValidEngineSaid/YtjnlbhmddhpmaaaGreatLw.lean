/- What a law does with memory: owned copies of a store; marks of a store, of a transaction, of a list of reads. -/
import Derived.Test.YtjnlbhmddhpmaaaGreatTm
import Derived.Test.YtjnlbhmddhpmaaaGreatMarkS
namespace Go.Proofs.YtjnlbhmddhpmaaaGreat.lw
open Go.ChangeShapes Go.WideShapes Go.ChangeAt Go.RowKit
open Go.Proofs.YtjnlbhmddhpmaaaGreat.el2 Go.Proofs.YtjnlbhmddhpmaaaGreat.tx Go.Proofs.YtjnlbhmddhpmaaaGreat.fr Go.Proofs.YtjnlbhmddhpmaaaGreat.ow2 Go.Proofs.YtjnlbhmddhpmaaaGreat.tm
open Go.Proofs.YtjnlbhmddhpmaaaGreat.sl (Ver)
open Go.Proofs.YtjnlbhmddhpmaaaGreat.st (Rs RR cnt)
set_option linter.unusedVariables false
set_option linter.unusedSimpArgs false
/-- a store's copy: its memory lies between lo and hi, and nothing of it has changed -/
def OwR (w : World) (lo hi : Nat) (N n : Nat) (ll : List (List Ver)) : Prop := ∃ v : World, RR v N n ll n ∧ ll.length = n ∧ lo ≤ N ∧ v.heap.size ≤ hi ∧ Below v.heap.size v w
theorem OwR.fr {w w' : World} {lo hi a b N n : Nat} {ll : List (List Ver)} (h : OwR w lo hi N n ll) (hf : FR a b w w') (hd : hi ≤ a ∨ b ≤ lo ∧ b = 0) (hs : hi ≤ w.heap.size) : OwR w' lo hi N n ll := by
  obtain ⟨v, h1, h2, h3, h4, h5⟩ := h
  refine ⟨v, h1, h2, h3, h4, h5.trans ⟨hf.os, hf.tape, hf.output, hf.size, fun k hk => hf.block k (by omega) (by omega)⟩⟩
theorem own_store {w : World} {B n c : Nat} {A : Option Addr} {ll : List (List Ver)} (hn : n ≤ 2097152) (hc : cnt ll ≤ 2097152) (h1 : Rs w B A n ll) (hB : B ≤ w.heap.size) :
    Calls Tryz.prog 21 #[.agg #[.slice A n c]] w fun e w' => ∃ N, e = .returned (.agg #[.slice (some ⟨N, 0, none⟩) n n]) ∧ OwR w' w.heap.size w'.heap.size N n ll ∧ Rs w' w'.heap.size (some ⟨N, 0, none⟩) n ll ∧ Below w.heap.size w w' :=
  (Go.Proofs.YtjnlbhmddhpmaaaGreat.st.copy_storeR hn hc h1 hB).mono fun e w' h => by
    obtain ⟨N, he, hN, hr, hb⟩ := h
    exact ⟨N, he, ⟨w', hr, h1.1, hN, Nat.le_refl _, Below.refl _ _⟩, hr.rs h1.1 (by omega), hb⟩
theorem same_l {w : World} {n c c2 : Nat} {A A2 : Option Addr} {l : List E2} (hn : n ≤ 140737488355328) (h1 : Vs w w.heap.size A n l) (h2 : Vs w w.heap.size A2 n l) :
    Calls Tryz.prog 75 #[.slice A n c, .slice A2 n c2] w fun e w' => e = .returned (.bool true) ∧ Below w.heap.size w w' :=
  Go.Proofs.YtjnlbhmddhpmaaaGreat.rReadMark.same hn h1 h2 (Nat.le_refl _)
end Go.Proofs.YtjnlbhmddhpmaaaGreat.lw
