/- Marks of a list of transactions: what a law writes and what it reads back. -/
import Derived.Test.YtjnlbhmddhpmaaaGreatTl
import Derived.Test.YtjnlbhmddhpmaaaGreatMt
import Derived.WalkKit
import Derived.ProofKit
import Derived.Below
import Derived.Lib.Hide
import Derived.LoopTactic
import Derived.Outline
import Derived.IntWalk
import Derived.Deep.OwnRows
namespace Go.Proofs.YtjnlbhmddhpmaaaGreat.tlm
open Go.ChangeShapes Go.WideShapes Go.ChangeAt Go.RowKit
open Go.Proofs.YtjnlbhmddhpmaaaGreat.el2 Go.Proofs.YtjnlbhmddhpmaaaGreat.fr Go.Proofs.YtjnlbhmddhpmaaaGreat.ow2 Go.Proofs.YtjnlbhmddhpmaaaGreat.tx Go.Proofs.YtjnlbhmddhpmaaaGreat.tm Go.Proofs.YtjnlbhmddhpmaaaGreat.ts Go.Proofs.YtjnlbhmddhpmaaaGreat.tl
open Go.Proofs.YtjnlbhmddhpmaaaGreat.mkr (Tr)
set_option linter.unusedVariables false
set_option linter.unusedSimpArgs false
theorem ival {a b : Int} (h : a = b) : Value.int .i64 a = .int .i64 b := congrArg _ h
/-- outside [lo, hi) all is kept, inside all but blocks of the types S -/
structure KT (S : TypeId → Prop) (lo hi : Nat) (w w' : World) : Prop where
  fr : FR lo hi w w'
  ty : ∀ (k : Nat) (cur : Array Value) (ty : TypeId) (z : Nat × Nat), w.heap[k]? = some (Obj.cells cur ty z) → ¬ S ty → w'.heap[k]? = w.heap[k]?
theorem KT.refl (S : TypeId → Prop) (lo hi : Nat) (w : World) : KT S lo hi w w := ⟨FR.same _, fun _ _ _ _ _ _ => rfl⟩
theorem KT.trans {S : TypeId → Prop} {lo hi : Nat} {w w' w2 : World} (h : KT S lo hi w w') (h2 : KT S lo hi w' w2) : KT S lo hi w w2 :=
  ⟨h.fr.trans h2.fr, fun k cur ty z hc hs => (h2.ty k cur ty z ((h.ty k cur ty z hc hs).trans hc) hs).trans (h.ty k cur ty z hc hs)⟩
theorem KT.mono {S S' : TypeId → Prop} {lo hi : Nat} {w w' : World} (h : KT S lo hi w w') (hs : ∀ t, S t → S' t) : KT S' lo hi w w' := ⟨h.fr, fun k cur ty z hc hn => h.ty k cur ty z hc fun hh => hn (hs _ hh)⟩
theorem KT.row {S : TypeId → Prop} {lo hi g M : Nat} {w w' : World} {t : TypeId} {f : Nat → Value} (h : KT S lo hi w w') (hr : w.rowIs g t M f) (ht : ¬ S t) : w'.heap[g]? = w.heap[g]? := by
  obtain ⟨c, hc, _⟩ := hr
  exact h.ty g c t _ hc ht
theorem KT.off {S : TypeId → Prop} {lo hi g M : Nat} {w w' : World} {t : TypeId} {f : Nat → Value} (h : Off g w w') (hr : w.rowIs g t M f) (ht : S t) (h1 : lo ≤ g) (h2 : g < hi) : KT S lo hi w w' :=
  ⟨(fr_off h).wide h1 (by omega), fun k cur ty z hc hn => h.block k fun e => by
    subst e
    obtain ⟨c, hc', _⟩ := hr
    rw [hc] at hc'
    injection hc' with e
    injection e with _ e2
    exact hn (e2 ▸ ht)⟩
theorem KT.ows {S : TypeId → Prop} {lo hi n : Nat} {w w' : World} {t : TypeId} {A : Option Addr} {l : List E2} (ho : OwS t w lo hi A n l) (ht : S t) (hf : FR lo hi w w') (hk : ∀ k, (∀ g, A = some ⟨g, 0, none⟩ → 0 < n → k ≠ g) → w'.heap[k]? = w.heap[k]?) : KT S lo hi w w' :=
  ⟨hf, fun k cur ty z hc hn => hk k fun g e p => by
    rintro rfl
    obtain ⟨g', M, f, e', hr⟩ := row_any ho p
    rw [e] at e'
    injection e' with e'
    injection e' with e'
    subst e'
    obtain ⟨c, hc', _⟩ := hr
    rw [hc] at hc'
    injection hc' with e
    injection e with _ e2
    exact hn (e2 ▸ ht)⟩
/-- the types that the marks of a list of transactions touch -/
def TT (t : TypeId) : Prop := t = 55 ∨ t = 83 ∨ t = 86
theorem ML.row {w : World} {lo hi n j g : Nat} {L : List Tr} {k0 : Int} (h : ML w lo hi (some ⟨g, 0, none⟩) n L k0 j) (hn : 0 < n) : ∃ M f, w.rowIs g 55 M f := by
  obtain ⟨g', M, f, hd, P, Q, c, d, e, h3, h4, hr, _⟩ := h.2 hn
  injection e with e
  injection e with e
  subst e
  exact ⟨M, f, hr⟩
theorem put7_eq {w : World} {g j : Nat} {z z1 z2 z3 z4 z5 z6 : Int} (e1 : z1 = z + 1) (e2 : z2 = z + 2) (e3 : z3 = z + 3) (e4 : z4 = z + 4) (e5 : z5 = z + 5) (e6 : z6 = z + 6) : (World.setCell (World.setCell (World.setCell (World.setCell (World.setCell (World.setCell (World.setCell w ⟨g, j * 9, none⟩ (.int .i64 (z))) ⟨g, j * 9 + 1, none⟩ (.int .i64 (z1))) ⟨g, j * 9 + 2, none⟩ (.int .i64 (z2))) ⟨g, j * 9 + 3, none⟩ (.int .i64 (z3))) ⟨g, j * 9 + 4, none⟩ (.int .i64 (z4))) ⟨g, j * 9 + 5, none⟩ (.int .i64 (z5))) ⟨g, j * 9 + 6, none⟩ (.int .i64 (z6))) = (World.setCell (World.setCell (World.setCell (World.setCell (World.setCell (World.setCell (World.setCell w ⟨g, j * 9, none⟩ (.int .i64 (z))) ⟨g, j * 9 + 1, none⟩ (.int .i64 (z + 1))) ⟨g, j * 9 + 2, none⟩ (.int .i64 (z + 2))) ⟨g, j * 9 + 3, none⟩ (.int .i64 (z + 3))) ⟨g, j * 9 + 4, none⟩ (.int .i64 (z + 4))) ⟨g, j * 9 + 5, none⟩ (.int .i64 (z + 5))) ⟨g, j * 9 + 6, none⟩ (.int .i64 (z + 6))) := by subst e1 e2 e3 e4 e5 e6; rfl
/-- the world behind the seven stores -/
structure Laid (w V : World) (g j lo hi : Nat) (z : Int) (t : Tr) (P : Option Addr) (pc : Nat) (Q : Option Addr) (qc : Nat) : Prop where
  eq : V = (World.setCell (World.setCell (World.setCell (World.setCell (World.setCell (World.setCell (World.setCell w ⟨g, j * 9, none⟩ (.int .i64 (z))) ⟨g, j * 9 + 1, none⟩ (.int .i64 (z + 1))) ⟨g, j * 9 + 2, none⟩ (.int .i64 (z + 2))) ⟨g, j * 9 + 3, none⟩ (.int .i64 (z + 3))) ⟨g, j * 9 + 4, none⟩ (.int .i64 (z + 4))) ⟨g, j * 9 + 5, none⟩ (.int .i64 (z + 5))) ⟨g, j * 9 + 6, none⟩ (.int .i64 (z + 6)))
  c7 : V.cell? ⟨g, j * 9 + 7, none⟩ = some (.slice P t.R.length pc)
  c8 : V.cell? ⟨g, j * 9 + 8, none⟩ = some (.slice Q t.S.length qc)
  o1 : OwS 83 V lo hi P t.R.length t.R
  o2 : OwS 86 V lo hi Q t.S.length t.S
  kt : KT TT lo hi w V
  row : ∃ M f, V.rowIs g 55 M f
theorem laid {w : World} {g j lo hi pc qc M : Nat} {z : Int} {t : Tr} {P Q : Option Addr} {f : Nat → Value} (hr : w.rowIs g 55 M f) (h7 : w.cell? ⟨g, j * 9 + 7, none⟩ = some (.slice P t.R.length pc)) (h8 : w.cell? ⟨g, j * 9 + 8, none⟩ = some (.slice Q t.S.length qc)) (o1 : OwS 83 w lo hi P t.R.length t.R) (o2 : OwS 86 w lo hi Q t.S.length t.S) (hlo : lo ≤ g) (hhi : g < hi) : Laid w ((World.setCell (World.setCell (World.setCell (World.setCell (World.setCell (World.setCell (World.setCell w ⟨g, j * 9, none⟩ (.int .i64 (z))) ⟨g, j * 9 + 1, none⟩ (.int .i64 (z + 1))) ⟨g, j * 9 + 2, none⟩ (.int .i64 (z + 1 + 1))) ⟨g, j * 9 + 3, none⟩ (.int .i64 (z + 1 + 1 + 1))) ⟨g, j * 9 + 4, none⟩ (.int .i64 (z + 1 + 1 + 1 + 1))) ⟨g, j * 9 + 5, none⟩ (.int .i64 (z + 1 + 1 + 1 + 1 + 1))) ⟨g, j * 9 + 6, none⟩ (.int .i64 (z + 1 + 1 + 1 + 1 + 1 + 1)))) g j lo hi z t P pc Q qc := by
  rw [put7_eq (z1 := z + 1) (z2 := z + 1 + 1) (z3 := z + 1 + 1 + 1) (z4 := z + 1 + 1 + 1 + 1) (z5 := z + 1 + 1 + 1 + 1 + 1) (z6 := z + 1 + 1 + 1 + 1 + 1 + 1) rfl (by omega) (by omega) (by omega) (by omega) (by omega)]
  have ho := put7_off w g j z
  have hp := put7_row (k := j) hr z
  refine ⟨rfl, ?_, ?_, ?_, ?_, ?_, ⟨_, _, hp⟩⟩
  · rw [World.cell?_setCell_other _ _ _ _ (by simp), World.cell?_setCell_other _ _ _ _ (by simp), World.cell?_setCell_other _ _ _ _ (by simp), World.cell?_setCell_other _ _ _ _ (by simp), World.cell?_setCell_other _ _ _ _ (by simp), World.cell?_setCell_other _ _ _ _ (by simp), World.cell?_setCell_other _ _ _ _ (by simp)]
    exact h7
  · rw [World.cell?_setCell_other _ _ _ _ (by simp), World.cell?_setCell_other _ _ _ _ (by simp), World.cell?_setCell_other _ _ _ _ (by simp), World.cell?_setCell_other _ _ _ _ (by simp), World.cell?_setCell_other _ _ _ _ (by simp), World.cell?_setCell_other _ _ _ _ (by simp), World.cell?_setCell_other _ _ _ _ (by simp)]
    exact h8
  · exact ows_of o1 fun gq e p => ho.block gq (ows_ne o1 hr (by decide) e p)
  · exact ows_of o2 fun gq e p => ho.block gq (ows_ne o2 hr (by decide) e p)
  · exact KT.off ho hr (.inl rfl) hlo hhi
theorem laid2 {w V W1 : World} {g j lo hi pc qc : Nat} {z : Int} {t : Tr} {P Q : Option Addr} (h : Laid w V g j lo hi z t P pc Q qc) (hk1 : ∀ k, (∀ g', P = some ⟨g', 0, none⟩ → 0 < t.R.length → k ≠ g') → W1.heap[k]? = V.heap[k]?) : W1.cell? ⟨g, j * 9 + 8, none⟩ = some (.slice Q t.S.length qc) ∧ OwS 86 W1 lo hi Q t.S.length t.S := by
  obtain ⟨M9, f9, r9⟩ := h.row
  refine ⟨(World.cell?_of_block (w := V) (a := ⟨g, j * 9 + 8, none⟩) (hk1 g fun g' e p => (ows_ne h.o1 r9 (by decide) e p).symm)).trans h.c8, ows_of h.o2 fun gq e p => ?_⟩
  obtain ⟨gb, _, _, eb, rb⟩ := row_any h.o2 p
  rw [e] at eb
  injection eb with eb
  injection eb with eb
  subst eb
  exact hk1 gq fun g5 e5 p5 => (ows_ne h.o1 rb (by decide) e5 p5).symm
theorem laid3 {w V W1 W2 : World} {g j n lo hi pc qc : Nat} {z : Int} {t : Tr} {P Q : Option Addr} {L : List Tr} {k0 : Int} (h : Laid w V g j lo hi z t P pc Q qc) (hm : ML w lo hi (some ⟨g, 0, none⟩) n L k0 j) (hj : j < n) (ht : L[j]? = some t) (hz : z = elk k0 L j) (h7 : w.cell? ⟨g, j * 9 + 7, none⟩ = some (.slice P t.R.length pc)) (h8 : w.cell? ⟨g, j * 9 + 8, none⟩ = some (.slice Q t.S.length qc))
    (hm1 : MkS 83 W1 lo hi P t.R.length (z + 7)) (hk1 : ∀ k, (∀ g', P = some ⟨g', 0, none⟩ → 0 < t.R.length → k ≠ g') → W1.heap[k]? = V.heap[k]?)
    (hm2 : MkS 86 W2 lo hi Q t.S.length (z + 7 + ((t.R.length * 2 : Nat) : Int))) (hk2 : ∀ k, (∀ g', Q = some ⟨g', 0, none⟩ → 0 < t.S.length → k ≠ g') → W2.heap[k]? = W1.heap[k]?) : ML W2 lo hi (some ⟨g, 0, none⟩) n L k0 (j + 1) :=
  ML.step hm hj ht hz h7 h8 hm1 (by rw [h.eq] at hk1; exact hk1) hm2 hk2
end Go.Proofs.YtjnlbhmddhpmaaaGreat.tlm
