/- Appends of versions onto a row of one's own; copies of a list of versions: the library's slices.Clone, the model's l3Copy. -/
import Derived.Test.YtigbknmiidhblaaOq
import Derived.Test.YtigbknmiidhblaaAo
namespace Go.Proofs.Ytigbknmiidhblaa.av
open Go.ChangeShapes Go.WideShapes Go.ChangeAt Go.RowKit
open Go.Proofs.Ytigbknmiidhblaa.sl Go.Proofs.Ytigbknmiidhblaa.st Go.Proofs.Ytigbknmiidhblaa.flat Go.Proofs.Ytigbknmiidhblaa.os Go.Proofs.Ytigbknmiidhblaa.oq
open Go.Proofs.Ytigbknmiidhblaa.el2 (new1)
open Go.Proofs.Ytigbknmiidhblaa.bx (own_more)
set_option linter.unusedVariables false
set_option linter.unusedSimpArgs false
set_option linter.constructorNameAsVariable false
theorem flat_app (l m : List Ver) : flat (l ++ m) = flat l ++ flat m := by simp [flat]
theorem flat_one : ∀ (l : List Ver), ∀ u ∈ flat l, u.oneCell' = true
  | [], u, hu => by simp [flat] at hu
  | x :: r, u, hu => by
    have e : flat (x :: r) = [.int .i64 x.a, .int .i64 x.b, .int .i64 x.c, .int .i64 x.d, .int .i64 x.e] ++ flat r := by simp [flat]
    rw [e] at hu
    rcases List.mem_append.1 hu with hu | hu
    · exact one5 x u hu
    · exact flat_one r u hu
theorem cells_at {w : World} {b : Nat} : ∀ (l : List Ver) (o : Nat), (∀ k x, l[k]? = some x → At w b (o + k * 5) x) → ∀ (j : Nat) (u : Value), (flat l)[j]? = some u → w.cell? ⟨b, o + j, none⟩ = some u
  | [], o, h, j, u, hu => by simp [flat] at hu
  | x :: r, o, h, j, u, hu => by
    have e : flat (x :: r) = [.int .i64 x.a, .int .i64 x.b, .int .i64 x.c, .int .i64 x.d, .int .i64 x.e] ++ flat r := by simp [flat]
    rw [e] at hu
    rcases Nat.lt_or_ge j 5 with hj | hj
    · rw [List.getElem?_append_left (by simpa using hj)] at hu
      obtain ⟨a0, a1, a2, a3, a4⟩ := h 0 x rfl
      simp only [Nat.zero_mul, Nat.add_zero] at a0 a1 a2 a3 a4
      match j, hj with
      | 0, _ => injection hu with hu; subst hu; exact a0
      | 1, _ => injection hu with hu; subst hu; exact a1
      | 2, _ => injection hu with hu; subst hu; exact a2
      | 3, _ => injection hu with hu; subst hu; exact a3
      | 4, _ => injection hu with hu; subst hu; exact a4
    · rw [List.getElem?_append_right (by simpa using hj)] at hu
      have := cells_at r (o + 5) (fun k y hy => by
        have := h (k + 1) y (by simpa using hy)
        rw [show o + 5 + k * 5 = o + (k + 1) * 5 by omega]
        exact this) (j - 5) u (by simpa using hu)
      rw [show o + j = o + 5 + (j - 5) by omega]
      exact this
theorem add_off (b o j : Nat) : (⟨b, o, none⟩ : Addr).add j = ⟨b, o + j, none⟩ := by unfold Addr.add; split <;> simp_all
/-- an append of the versions that a slice reads as, onto a row of one's own -/
theorem run_append_v (w : World) {v : Value} {k n c B : Nat} {A : Option Addr} {xs l : List Ver} (hown : w.ownsRow 0 66 5 v k (flat xs)) (hv : Vs w B A n l) (hk : k + n ≤ 2097152) :
    ∃ v' w', (Builtin.append_ #[42, 42] 42 #[v, .slice A n c]).run Try.prog w = .ok v' w' ∧ w'.ownsRow 0 66 5 v' (k + n) (flat (xs ++ l)) ∧ w.grownBy w' v.ownBlock ∧ ∀ q, v'.ownBlock = some q → v.ownBlock = some q ∨ w.heap.size ≤ q := by
  obtain ⟨i, hi, hz, hs, hb⟩ := info_parts ver_info
  have hlen := hv.1
  rcases Nat.eq_zero_or_pos n with h0 | h0
  · subst h0
    obtain rfl : l = [] := List.eq_nil_of_length_eq_zero hlen
    refine ⟨v, w, ?_, by simpa using hown, ⟨rfl, rfl, rfl, Nat.le_refl _, fun _ _ _ => rfl⟩, fun q hq => .inl hq⟩
    cases A with
    | none =>
      rcases hown.2 with ⟨rfl, rfl⟩ | ⟨g, cap, cur, rfl, _, _, hnc, _⟩
      · simp [Builtin.append_, run_underlying Try.underlying42, sizeOf, typeInfo, hi, Builtin.lenOf, Builtin.firstCells]
      · simp [Builtin.append_, run_underlying Try.underlying42, sizeOf, typeInfo, hi, Builtin.lenOf, Builtin.firstCells, storeCells, hnc]
    | some a =>
      have hf := run_firstCells_some (P := Try.prog) w i.size 0 a 0 c [] (by simp) (by simp)
      rcases hown.2 with ⟨rfl, rfl⟩ | ⟨g, cap, cur, rfl, _, _, hnc, _⟩
      · simp [Builtin.append_, run_underlying Try.underlying42, sizeOf, typeInfo, hi, Builtin.lenOf, hf]
      · simp [Builtin.append_, run_underlying Try.underlying42, sizeOf, typeInfo, hi, Builtin.lenOf, hf, storeCells, hnc]
  · obtain ⟨b, o, rfl, _, hx⟩ := hv.2 h0
    have hr := run_append_at (P := Try.prog) w 42 42 66 i _ 5 40 Try.underlying42 hi hz hs hb rfl (by decide) v k (flat xs) hown ⟨b, o, none⟩ n c (flat l) (by rw [flat_len, hlen]) (fun j u hu => by rw [add_off]; exact cells_at l o hx j u hu) (flat_one l) (by unfold maxLen; omega) (by omega)
    rw [← flat_app] at hr
    exact hr
/-- .. of one version that lies in a block of its own -/
theorem one_vs {w : World} {q : Nat} {m : Ver} (h : At w q 0 m) : Vs w (q + 1) (some ⟨q, 0, none⟩) 1 [m] := ⟨rfl, fun _ => ⟨q, 0, rfl, by omega, fun k z hz => by
  match k, hz with
  | 0, hz => injection hz with hz; subst hz; exact h⟩⟩
theorem own_empty (w : World) : (w.alloc (.cells #[] 66)).ownsRow 0 66 5 (.slice (some ⟨w.heap.size, 0, none⟩) 0 0) 0 (flat []) := by
  have := World.ownsRow_made w (base := 0) (e := 66) (size := 5) #[] 0 (Nat.zero_le _) (by unfold maxLen; omega) rfl
  simpa [flat] using this
/-- an append of a list onto an empty row just laid -/
theorem app_empty (w : World) {A : Option Addr} {n c B : Nat} {l : List Ver} (hv : Vs w B A n l) (hn : n ≤ 2097152) (hB : B ≤ w.heap.size) :
    ∃ A' c' w', (Builtin.append_ #[42, 42] 42 #[.slice (some ⟨w.heap.size, 0, none⟩) 0 0, .slice A n c]).run Try.prog (w.alloc (.cells #[] 66)) = .ok (.slice A' n c') w' ∧ w'.ownsRow w.heap.size 66 5 (.slice A' n c') n (flat l) ∧ Below w.heap.size w w' := by
  obtain ⟨v', w', hr, ho, hg, hq⟩ := run_append_v (w.alloc (.cells #[] 66)) (own_empty w) (hv.below (below_le (new1 w _) hB)) (c := c) (by omega)
  have hb1 := (new1 w (.cells #[] 66)).grown hg (by simp) (fun k hk => by simp [Value.ownBlock] at hk; omega)
  rw [Nat.zero_add, List.nil_append] at ho
  obtain ⟨A', c', rfl, _⟩ := own_vs ho hv.1
  refine ⟨A', c', w', hr, own_lo ho fun q e => ?_, hb1⟩
  rcases hq q e with h | h
  · simp [Value.ownBlock] at h; omega
  · simp at h; omega
/-- a copy of a list of versions in memory of its own -/
def CopV (n : Nat) (l : List Ver) (w : World) (e : Ending) (w' : World) : Prop :=
  ∃ A' c', e = .returned (.slice A' n c') ∧ w'.ownsRow w.heap.size 66 5 (.slice A' n c') n (flat l) ∧ Below w.heap.size w w'
end Go.Proofs.Ytigbknmiidhblaa.av
