/- Chapter 6 of the program: the version that a mark names, slices.IndexFunc and ContainsFunc at marks, ReadsExist: what each answers; nothing that was there is written. -/
import Derived.Test.YtigbknmiidhblaaRq
import Derived.Shelf.Abstract
namespace Go.Proofs.Ytigbknmiidhblaa.ri
open Go.ChangeShapes Go.WideShapes Go.ChangeAt Go.RowKit
open Go.Proofs.Ytigbknmiidhblaa.el2 Go.Proofs.Ytigbknmiidhblaa.tx Go.Proofs.Ytigbknmiidhblaa.seq Go.Proofs.Ytigbknmiidhblaa.tv Go.Proofs.Ytigbknmiidhblaa.tf Go.Proofs.Ytigbknmiidhblaa.rx
open Go.Proofs.Ytigbknmiidhblaa.vers (new2)
open Go.Proofs.Ytigbknmiidhblaa.sl (Ver)
open Go.Proofs.Ytigbknmiidhblaa.st (Rs)
open Go.Proofs.Ytigbknmiidhblaa.val (stB)
open Go.Proofs.Ytigbknmiidhblaa.find (fndI)
set_option linter.unusedVariables false
set_option linter.unusedSimpArgs false
/-- what versionOf hands back -/
def VO (C : List (List Ver)) (y : E2) (B : Nat) (W : World) (e : Ending) : Prop :=
  (hasV C y = false ∧ e = .returned (.pointer none)) ∨ (hasV C y = true ∧ ∃ b o, e = .returned (.pointer (some ⟨b, o, none⟩)) ∧ b < B ∧ Go.Proofs.Ytigbknmiidhblaa.sl.At W b o (verOf C y))
set_option maxRecDepth 100000 in
set_option maxHeartbeats 3200000 in
theorem impl_vof {w : World} {B N cN : Nat} {D : Option Addr} {C : List (List Ver)} (y : E2) (sb : Nat) (hsb : sb < w.heap.size) (hs : w.cell? ⟨sb, 0, none⟩ = some (.slice D N cN)) (hy : 0 ≤ y.a) (hy2 : y.a < (N : Int)) (h3 : Rs w B D N C) (hB : B ≤ w.heap.size) :
    Calls Try.prog 44 #[.pointer (some ⟨sb, 0, none⟩), .agg #[.int .i64 y.a, .int .i64 y.b]] w fun e w' => VO C y B w' e ∧ Below w.heap.size w w' := by
  have s4 : y.a.toNat < N := by omega
  obtain ⟨b2, o2, l, A', n', c', rfl, hb2, hl, d0, hn', hv⟩ := h3.at_ s4
  have HL := Lib.hid hl
  clear h3 hl
  generalize hz : fndI y.b l 0 = z
  have HZ := Lib.hid hz
  clear hz
  go_enter Try.func44, Try.ntmps44
  go_wp2_with fail
  have hb := new1 w (.cells #[.int .i64 y.a, .int .i64 y.b] 71)
  have mb := boxed w y 71
  have hs' := st.up (.cells #[.int .i64 y.a, .int .i64 y.b] 71) hs hsb
  have d0' := st.up (.cells #[.int .i64 y.a, .int .i64 y.b] 71) d0 (show b2 < w.heap.size by omega)
  have hv' := hv.below (below_le hb hB)
  clear hs d0 hv
  generalize w.alloc _ = W0 at hb mb hs' d0' hv' ⊢
  have HV := Lib.hid hv'
  have HB := Lib.hid hb
  obtain ⟨m0, m1⟩ := atFlat mb
  clear hv' hb mb
  go_quiet (fail)
  go_wp2_with fail
  refine (find.impl_find y.b hn' (vsd HV.out _) (Nat.le_trans hB HB.out.size)).mono ?_
  rintro e W1 ⟨rfl, hb1⟩
  rw [HZ.out]
  have HB1 : Hid (Below w.heap.size w W1) := Lib.hid ((Off1 HB.out _).trans (hb1.mono HB.out.size))
  have HV1 := Lib.hid ((vsd HV.out _).below (below_le hb1 (Nat.le_trans hB HB.out.size)))
  clear hb1 m0 m1 hs' d0'
  by_cases hzz : 0 ≤ z
  · have t : decide (z < 0) = false := decide_eq_false (by omega)
    obtain ⟨j, hj, hjl⟩ := fnd_lt (c := y.b) (l := l) (by rw [HZ.out]; exact hzz)
    have hj2 : z = (j : Int) := by rw [← HZ.out]; exact hj
    subst hj2
    have hln := HV.out.1
    obtain ⟨b, o, v, rfl, hbB, hx, a0, a1, a2, a3, a4⟩ := HV1.out.at_ (k := j) (by omega)
    have hjn : (j : Int) < (n' : Int) := by omega
    have HA : Hid (Go.Proofs.Ytigbknmiidhblaa.sl.At W1 b (o + j * 5) v) := Lib.hid ⟨a0, a1, a2, a3, a4⟩
    have HX := Lib.hid hx
    clear a0 a1 a2 a3 a4 hx hln hjl
    go_wp2_with fail
    go_ret
    exact ⟨Or.inr ⟨has_at HL.out HZ.out (decide_eq_true hzz), b, o + j * 5, rfl, hbB, by rw [ver_at HL.out HZ.out HX.out]; exact HA.out⟩, HB1.out⟩
  · have t : decide (z < 0) = true := decide_eq_true (by omega)
    go_wp2_with fail
    go_ret
    exact ⟨Or.inl ⟨has_at HL.out HZ.out (decide_eq_false (by omega)), rfl⟩, HB1.out⟩
theorem any_hit {p : E2 → Bool} {l : List E2} {k : Nat} {y : E2} (hx : l[k]? = some y) (h : p y = true) : l.any p = true := by
  rw [List.any_eq_true]
  exact ⟨y, List.mem_of_getElem? hx, h⟩
theorem any_none {p : E2 → Bool} {l : List E2} {n : Nat} (hn : l.length = n) (h : ∀ (j : Nat) (y : E2), j < n → l[j]? = some y → (!p y) = true) : l.any p = false := by
  have h2 := all_good hn h
  rw [List.all_eq_true] at h2
  rw [List.any_eq_false]
  intro x hx
  have := h2 x hx
  simpa using this
theorem any_all {C : List (List Ver)} (R : List E2) : (!R.any fun y => !hasV C y) = R.all (hasV C) := by
  rw [List.not_any_eq_all_not]
  congr 1
  funext y
  simp
end Go.Proofs.Ytigbknmiidhblaa.ri
