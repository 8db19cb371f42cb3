/- Owned lists of versions, as a law marks them and looks at the marks. -/
import Derived.Test.YtjnlbhmddhpmaaaGreatMarkS
import Derived.Test.YtjnlbhmddhpmaaaGreatOq
import Derived.Test.YtjnlbhmddhpmaaaGreatFr
namespace Go.Proofs.YtjnlbhmddhpmaaaGreat.mv
open Go.ChangeShapes Go.WideShapes Go.ChangeAt Go.RowKit
open Go.Proofs.YtjnlbhmddhpmaaaGreat.vers Go.Proofs.YtjnlbhmddhpmaaaGreat.sl Go.Proofs.YtjnlbhmddhpmaaaGreat.st Go.Proofs.YtjnlbhmddhpmaaaGreat.flat Go.Proofs.YtjnlbhmddhpmaaaGreat.oq Go.Proofs.YtjnlbhmddhpmaaaGreat.marks
open Go.Proofs.YtjnlbhmddhpmaaaGreat.fr (FR)
set_option linter.unusedVariables false
set_option linter.unusedSimpArgs false
def OvS (w : World) (lo hi : Nat) (A : Option Addr) (n : Nat) (l : List Ver) : Prop :=
  l.length = n ∧ ∃ c, w.ownsRow lo 81 5 (.slice A n c) n (flat l) ∧ ∀ q, (Value.slice A n c).ownBlock = some q → q < hi
def MvS (w : World) (lo hi : Nat) (A : Option Addr) (n : Nat) (k0 : Int) : Prop := 0 < n → ∃ g M, A = some ⟨g, 0, none⟩ ∧ lo ≤ g ∧ g < hi ∧ n * 5 ≤ M ∧ MK w g M k0 n
section
variable {w w' : World} {lo hi a b n c B : Nat} {A : Option Addr} {l : List Ver} {k0 : Int}
theorem OvS.vs (h : OvS w lo hi A n l) (hB : hi ≤ B) : Vs w B A n l := ⟨h.1, fun hn => by
  obtain ⟨hl, c, ho, hq⟩ := h
  obtain ⟨A9, c9, e, hv⟩ := own_vs ho hl
  injection e with e1 _ e2
  subst e1
  obtain ⟨b9, o9, e9, hb9, hx⟩ := hv.2 hn
  refine ⟨b9, o9, e9, ?_, hx⟩
  subst e9
  have := hq b9 rfl
  omega⟩
theorem OvS.fr (h : OvS w lo hi A n l) (hf : FR a b w w') (hd : hi ≤ a ∨ b ≤ lo) (hs : hi ≤ w.heap.size) : OvS w' lo hi A n l := by
  obtain ⟨hl, c, ho, hq⟩ := h
  exact ⟨hl, c, own_of ho fun q e => hf.block q (by have := hq q e; omega) (by have := hq q e; have := (ho.lt q e).1; omega), hq⟩
theorem MvS.fr (h : MvS w lo hi A n k0) (hf : FR a b w w') (hd : hi ≤ a ∨ b ≤ lo) (hs : hi ≤ w.heap.size) : MvS w' lo hi A n k0 := fun hn => by
  obtain ⟨g, M, e, h1, h2, hM, hk⟩ := h hn
  exact ⟨g, M, e, h1, h2, hM, hk.of_block (hf.block _ (by omega) (by omega))⟩
theorem OvS.of_own (h : w.ownsRow lo 81 5 (.slice A n c) n (flat l)) (hl : l.length = n) (h2 : w.heap.size ≤ hi) : OvS w lo hi A n l := ⟨hl, c, h, fun q e => by have := (h.lt q e).2; omega⟩
theorem mk_of {g cap : Nat} {cur : Array Value} (hg : w.heap[g]? = some (.cells cur 81 (0, 0))) (k0 : Int) : MK w g cur.size k0 0 :=
  ⟨fun i => cur[i]?.getD undef, ⟨cur, hg, rfl, fun i hi => by show cur[i]? = some (cur[i]?.getD undef); rw [Array.getElem?_eq_getElem hi]; rfl⟩, fun i hi => absurd hi (by omega)⟩
end
theorem same_l {w : World} {n c c2 : Nat} {A A2 : Option Addr} {l : List Ver} (hn : n ≤ 140737488355328) (h1 : Vs w w.heap.size A n l) (h2 : Vs w w.heap.size A2 n l) :
    Calls Tryz.prog 74 #[.slice A n c, .slice A2 n c2] w fun e w' => e = .returned (.bool true) ∧ Below w.heap.size w w' :=
  same_versions hn h1 h2 (Nat.le_refl _)
end Go.Proofs.YtjnlbhmddhpmaaaGreat.mv
