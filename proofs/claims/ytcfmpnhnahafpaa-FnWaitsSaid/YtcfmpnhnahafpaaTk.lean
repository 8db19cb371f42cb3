/- TrackRead of the program and of the model: what each answers, in memory of its own. -/
import Derived.Test.YtcfmpnhnahafpaaAd
import Derived.Test.YtcfmpnhnahafpaaPu
import Derived.Test.YtcfmpnhnahafpaaTvs
import Derived.Test.YtcfmpnhnahafpaaCh
namespace Go.Proofs.Ytcfmpnhnahafpaa.tk
open Go.ChangeShapes Go.WideShapes Go.ChangeAt Go.RowKit
open Go.Proofs.Ytcfmpnhnahafpaa.el2 Go.Proofs.Ytcfmpnhnahafpaa.tx Go.Proofs.Ytcfmpnhnahafpaa.seq Go.Proofs.Ytcfmpnhnahafpaa.tv Go.Proofs.Ytcfmpnhnahafpaa.tf Go.Proofs.Ytcfmpnhnahafpaa.ap Go.Proofs.Ytcfmpnhnahafpaa.bx Go.Proofs.Ytcfmpnhnahafpaa.cl Go.Proofs.Ytcfmpnhnahafpaa.lc Go.Proofs.Ytcfmpnhnahafpaa.ro Go.Proofs.Ytcfmpnhnahafpaa.ao Go.Proofs.Ytcfmpnhnahafpaa.ins Go.Proofs.Ytcfmpnhnahafpaa.pu Go.Proofs.Ytcfmpnhnahafpaa.ad
open Go.Proofs.Ytcfmpnhnahafpaa.vers (new2 new3 In vB ret_b)
open Go.Proofs.Ytcfmpnhnahafpaa.sl (Ver)
set_option linter.unusedVariables false
set_option linter.unusedSimpArgs false
noncomputable def actB (x : Hd) (R S : List E2) : Bool := txB x R S && decide (x.t = 1)
noncomputable def trB (x : Hd) (R S : List E2) (k : Int) (v : Ver) : Bool := actB x R S && decide (R.length < 60) && In 0 5 k && vB v.a v.b v.c v.d v.e
noncomputable def trX (x : Hd) (R S : List E2) (k : Int) (v : Ver) : Hd := if trB x R S k v = true then { x with l := max x.l v.c, h := min x.h v.e } else x
noncomputable def trR (x : Hd) (R S : List E2) (k : Int) (v : Ver) : List E2 := if trB x R S k v = true then insR ⟨k, v.c⟩ R else R
section
variable {x : Hd} {R S : List E2} {k : Int} {v : Ver}
theorem tr_yes (h : trB x R S k v = true) : trX x R S k v = { x with l := max x.l v.c, h := min x.h v.e } ∧ trR x R S k v = insR ⟨k, v.c⟩ R := ⟨if_pos h, if_pos h⟩
theorem tr_no (h : trB x R S k v = false) : trX x R S k v = x ∧ trR x R S k v = R := ⟨if_neg (by simp [h]), if_neg (by simp [h])⟩
theorem ver_off {w w' : World} {b o : Nat} {x : Ver} (h : Go.Proofs.Ytcfmpnhnahafpaa.sl.At w b o x) (hk : w'.heap[b]? = w.heap[b]?) : Go.Proofs.Ytcfmpnhnahafpaa.sl.At w' b o x :=
  ⟨(World.cell?_of_block (w := w) (a := ⟨b, o, none⟩) hk).trans h.1, (World.cell?_of_block (w := w) (a := ⟨b, o + 1, none⟩) hk).trans h.2.1, (World.cell?_of_block (w := w) (a := ⟨b, o + 2, none⟩) hk).trans h.2.2.1, (World.cell?_of_block (w := w) (a := ⟨b, o + 3, none⟩) hk).trans h.2.2.2.1, (World.cell?_of_block (w := w) (a := ⟨b, o + 4, none⟩) hk).trans h.2.2.2.2⟩
theorem trR_len (x : Hd) (R S : List E2) (k : Int) (v : Ver) : (trR x R S k v).length ≤ R.length + 1 := by
  unfold trR
  split
  · exact ins_len
  · omega
theorem act_t (h : txB x R S = true) : decide (x.t = 1) = actB x R S := by simp [actB, h]
theorem act_f (h : txB x R S = false) : false = actB x R S := by simp [actB, h]
theorem tr_a (h : actB x R S = false) : false = trB x R S k v := by simp [trB, h]
theorem tr_b (h : ¬ R.length < 60) : false = trB x R S k v := by simp [trB, h]
theorem tr_c (h : In 0 5 k = false) : false = trB x R S k v := by simp [trB, h]
theorem tr_d (h : actB x R S = true) (h2 : R.length < 60) (h3 : In 0 5 k = true) : vB v.a v.b v.c v.d v.e = trB x R S k v := by simp [trB, h, h2, h3]
theorem tr_all (h : trB x R S k v = true) : txB x R S = true ∧ x.t = 1 ∧ R.length < 60 ∧ In 0 5 k = true ∧ vB v.a v.b v.c v.d v.e = true := by
  simp only [trB, actB, Bool.and_eq_true, decide_eq_true_eq] at h
  exact ⟨h.1.1.1.1, h.1.1.1.2, h.1.1.2, h.1.2, h.2⟩
theorem trR_max (x : Hd) (R S : List E2) (k : Int) (v : Ver) : (trR x R S k v).length ≤ R.length ∨ (trR x R S k v).length ≤ 61 := by
  by_cases h : trB x R S k v = true
  · have h60 := (tr_all h).2.2.1
    have hl := trR_len x R S k v
    omega
  · rw [(tr_no (Bool.eq_false_iff.2 h)).2]
    exact .inl (Nat.le_refl _)
theorem tx_sq (h : txB x R S = true) : SqP okR folR R ∧ R.length ≤ 60 := by
  simp only [txB, rdB, Bool.and_eq_true, decide_eq_true_eq] at h
  exact ⟨sq_of h.1.2.2, h.1.2.1⟩
end
section
variable {x : Hd} {R S : List E2} {k : Int} {v : Ver}
theorem tr_t (h : txB x R S = false) : false = trB x R S k v := by simp [trB, actB, h]
theorem tr_s (h : x.t ≠ 1) : false = trB x R S k v := by simp [trB, actB, h]
theorem tr_v (h : vB v.a v.b v.c v.d v.e = false) : false = trB x R S k v := by simp [trB, h]
theorem tr_l (h : R.length = 60) : false = trB x R S k v := by simp [trB, h]
theorem tr_y (h : txB x R S = true) (h1 : x.t = 1) (h2 : In 0 5 k = true) (h3 : vB v.a v.b v.c v.d v.e = true) (h4 : R.length ≠ 60) : trB x R S k v = true := by
  have := (tx_sq h).2
  simp [trB, actB, h, h1, h2, h3]
  omega
end
end Go.Proofs.Ytcfmpnhnahafpaa.tk
