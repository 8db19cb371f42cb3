/- Marks on a transaction that a call made. -/
import Derived.Test.YtjnlbhmddhpmaaaGreatOw2
import Derived.Test.YtjnlbhmddhpmaaaGreatTx
import Derived.WalkKit
import Derived.ProofKit
import Derived.Below
import Derived.Carry
import Derived.Lib.Hide
namespace Go.Proofs.YtjnlbhmddhpmaaaGreat.tm
open Go.ChangeShapes Go.WideShapes Go.ChangeAt Go.RowKit
open Go.Proofs.YtjnlbhmddhpmaaaGreat.el2 Go.Proofs.YtjnlbhmddhpmaaaGreat.fr Go.Proofs.YtjnlbhmddhpmaaaGreat.ow2 Go.Proofs.YtjnlbhmddhpmaaaGreat.tx
set_option linter.unusedVariables false
theorem TB.fr {w w' : World} {b lo hi : Nat} {x : Hd} {u v : Value} (h : TB w b x u v) (hf : FR lo hi w w') (hd : b < lo ∨ hi ≤ b) (hs : b < w.heap.size) : TB w' b x u v := h.of_block (hf.block b hs hd)
theorem At.fr {w w' : World} {b o lo hi : Nat} {x : E2} (h : At w b o x) (hf : FR lo hi w w') (hd : b < lo ∨ hi ≤ b) (hs : b < w.heap.size) : At w' b o x := h.of_block (hf.block b hs hd)
/-- the two slices of a transaction: owned, marked -/
def OwT (w : World) (lo hi : Nat) (A : Option Addr) (n : Nat) (R : List E2) (A2 : Option Addr) (n2 : Nat) (S : List E2) : Prop := OwS 83 w lo hi A n R ∧ OwS 86 w lo hi A2 n2 S
def MkT (w : World) (lo hi : Nat) (A : Option Addr) (n : Nat) (A2 : Option Addr) (n2 : Nat) : Prop := MkS 83 w lo hi A n 1 ∧ MkS 86 w lo hi A2 n2 (1 + (n * 2 : Nat))
theorem OwT.fr {w w' : World} {lo hi a b n n2 : Nat} {A A2 : Option Addr} {R S : List E2} (h : OwT w lo hi A n R A2 n2 S) (hf : FR a b w w') (hd : hi ≤ a ∨ b ≤ lo) (hs : hi ≤ w.heap.size) : OwT w' lo hi A n R A2 n2 S := ⟨h.1.fr hf hd hs, h.2.fr hf hd hs⟩
theorem MkT.fr {w w' : World} {lo hi a b n n2 : Nat} {A A2 : Option Addr} (h : MkT w lo hi A n A2 n2) (hf : FR a b w w') (hd : hi ≤ a ∨ b ≤ lo) (hs : hi ≤ w.heap.size) : MkT w' lo hi A n A2 n2 := ⟨h.1.fr hf hd hs, h.2.fr hf hd hs⟩
theorem row_ne {w : World} {g g2 M M2 : Nat} {f f2 : Nat → Value} {t t2 : TypeId} (h : w.rowIs g t M f) (h2 : w.rowIs g2 t2 M2 f2) (ht : t ≠ t2) : g ≠ g2 := by
  rintro rfl
  obtain ⟨c, hc, _⟩ := h
  obtain ⟨c2, hc2, _⟩ := h2
  rw [hc] at hc2
  injection hc2 with e
  injection e with _ e2
  exact ht e2
/-- the copy, owned -/
theorem own_tx {w : World} {B n c n2 c2 : Nat} {A A2 : Option Addr} {R S : List E2} (x : Hd) (hn : n ≤ 2097152) (hn2 : n2 ≤ 2097152) (h1 : Vs w B A n R) (h2 : Vs w B A2 n2 S) (hB : B ≤ w.heap.size) :
    Calls Tryz.prog 42 #[.agg #[.int .i64 x.i, .int .i64 x.s, .int .i64 x.t, .int .i64 x.b, .int .i64 x.l, .int .i64 x.h, .int .i64 x.c, .slice A n c, .slice A2 n2 c2]] w fun e w' => ∃ N M, e = .returned (.agg #[.int .i64 x.i, .int .i64 x.s, .int .i64 x.t, .int .i64 x.b, .int .i64 x.l, .int .i64 x.h, .int .i64 x.c, .slice (some ⟨N, 0, none⟩) n n, .slice (some ⟨M, 0, none⟩) n2 n2]) ∧ OwT w' w.heap.size w'.heap.size (some ⟨N, 0, none⟩) n R (some ⟨M, 0, none⟩) n2 S ∧ Below w.heap.size w w' :=
  (copy_tx x hn hn2 h1 h2 hB).mono fun e w' ⟨N, M, he, hN, hNM, hM, r1, r2, hb⟩ => ⟨N, M, he, ⟨OwS.of_row r1 h1.1 hN (by omega), OwS.of_row r2 h2.1 (by omega) hM⟩, hb⟩
end Go.Proofs.YtjnlbhmddhpmaaaGreat.tm
