/- The law's own marks on a store: what it writes and what it reads back. -/
import Derived.Test.YtjnlbhmddhpmaaaInts
import Derived.WalkKit
import Derived.ProofKit
import Derived.Below
import Derived.Lib.Hide
import Derived.LoopTactic
import Derived.Outline
import Derived.IntWalk
import Derived.Deep.OwnRows
namespace Go.Proofs.Ytjnlbhmddhpmaaa.marks
open Go.ChangeShapes Go.WideShapes Go.ChangeAt Go.RowKit
open Go.Proofs.Ytjnlbhmddhpmaaa.vers Go.Proofs.Ytjnlbhmddhpmaaa.sl Go.Proofs.Ytjnlbhmddhpmaaa.ch Go.Proofs.Ytjnlbhmddhpmaaa.st Go.Proofs.Ytjnlbhmddhpmaaa.ints
set_option linter.unusedVariables false
set_option linter.unusedSimpArgs false
/-- block g, of M cells, bears the marks k0, k0 + 1, .. of the first j versions -/
def MK (w : World) (g M : Nat) (k0 : Int) (j : Nat) : Prop := ∃ f, w.rowIs g 99 M f ∧ ∀ i, i < j * 5 → f i = .int .i64 (k0 + i)
section
variable {w w' : World} {g M j : Nat} {k0 : Int}
theorem MK.lt (h : MK w g M k0 j) : g < w.heap.size := by obtain ⟨f, hf, _⟩ := h; exact hf.lt
theorem MK.of_block (h : MK w g M k0 j) (hb : w'.heap[g]? = w.heap[g]?) : MK w' g M k0 j := by
  obtain ⟨f, hf, hm⟩ := h
  exact ⟨f, hf.of_block hb, hm⟩
theorem MK.cell (h : MK w g M k0 j) {i : Nat} (hi : i < j * 5) (hM : j * 5 ≤ M) : w.cell? ⟨g, i, none⟩ = some (.int .i64 (k0 + i)) := by
  obtain ⟨f, hf, hm⟩ := h
  rw [hf.cell (by omega), hm i hi]
theorem MK.any (h : MK w g M k0 j) {i : Nat} (hi : i < M) : ∃ u, w.cell? ⟨g, i, none⟩ = some u := by
  obtain ⟨f, hf, hm⟩ := h
  exact ⟨_, hf.cell hi⟩
theorem MK.frozen (h : MK w g M k0 j) (i : Nat) : w.frozen? ⟨g, i, none⟩ = false := by
  obtain ⟨f, hf, hm⟩ := h
  exact hf.frozen i
theorem MK.step {x : Int} (h : MK w g M k0 j) (hx : x = k0 + (j * 5 : Nat)) :
    MK (((((w.setCell ⟨g, j * 5, none⟩ (.int .i64 x)).setCell ⟨g, j * 5 + 1, none⟩ (.int .i64 (x + 1))).setCell ⟨g, j * 5 + 2, none⟩ (.int .i64 (x + 1 + 1))).setCell ⟨g, j * 5 + 3, none⟩ (.int .i64 (x + 1 + 1 + 1))).setCell ⟨g, j * 5 + 4, none⟩ (.int .i64 (x + 1 + 1 + 1 + 1))) g M k0 (j + 1) := by
  obtain ⟨f, hf, hm⟩ := h
  refine ⟨_, ((((hf.set (j * 5) _).set (j * 5 + 1) _).set (j * 5 + 2) _).set (j * 5 + 3) _).set (j * 5 + 4) _, fun i hi => ?_⟩
  by_cases h4 : i = j * 5 + 4
  · rw [if_pos h4]; exact congrArg (Value.int .i64) (by omega)
  · rw [if_neg h4]
    by_cases h3 : i = j * 5 + 3
    · rw [if_pos h3]; exact congrArg (Value.int .i64) (by omega)
    · rw [if_neg h3]
      by_cases h2 : i = j * 5 + 2
      · rw [if_pos h2]; exact congrArg (Value.int .i64) (by omega)
      · rw [if_neg h2]
        by_cases h1 : i = j * 5 + 1
        · rw [if_pos h1]; exact congrArg (Value.int .i64) (by omega)
        · rw [if_neg h1]
          by_cases h0 : i = j * 5
          · rw [if_pos h0]; exact congrArg (Value.int .i64) (by omega)
          · rw [if_neg h0]
            exact hm i (by omega)
theorem MK.of_row {n : Nat} {l : List Ver} {k : Nat} (h : Row w g n l k) (k0 : Int) : MK w g (n * 5) k0 0 := ⟨_, h, fun i hi => absurd hi (by omega)⟩
end
set_option maxRecDepth 100000 in
set_option maxHeartbeats 1600000 in
theorem mark_from {w : World} {g M n c : Nat} {k0 : Int} (h0 : 0 ≤ k0) (h1 : k0 ≤ 1152921504606846976) (hn : n ≤ 1048576) (hM : n * 5 ≤ M) (h : MK w g M k0 0) :
    Calls Try.prog 99 #[.slice (some ⟨g, 0, none⟩) n c, .int .i64 k0] w fun e w' => e = .returned (.int .i64 (k0 + (n * 5 : Nat))) ∧ MK w' g M k0 n ∧ Off (fun k => k = g) w w' := by
  have H := Lib.hid h
  clear h
  go_enter Try.func99, Try.ntmps99
  go_wp2
  go_loopw [1, 5] (fun k i wr => ∃ j : Nat, j ≤ n ∧ i = .int .i64 j ∧ k = .int .i64 (k0 + ((j * 5 : Nat) : Int)) ∧ MK wr g M k0 j ∧ Off (fun k => k = g) w wr) (fun _ i _ => n - (intOf i).toNat)
  case atStart => exact ⟨0, by omega, rfl, ival (by omega), H.out, Off.refl _ _⟩
  case round =>
    obtain ⟨j, hj, rfl, rfl, hm, hg⟩ := hrel
    have HM := Lib.hid hm
    have HG := Lib.hid hg
    by_cases hlt : j < n
    · obtain ⟨u0, c0⟩ := hm.any (i := j * 5) (by omega)
      obtain ⟨u1, c1⟩ := hm.any (i := j * 5 + 1) (by omega)
      obtain ⟨u2, c2⟩ := hm.any (i := j * 5 + 2) (by omega)
      obtain ⟨u3, c3⟩ := hm.any (i := j * 5 + 3) (by omega)
      obtain ⟨u4, c4⟩ := hm.any (i := j * 5 + 4) (by omega)
      have f0 := hm.frozen (j * 5)
      have f1 := hm.frozen (j * 5 + 1)
      have f2 := hm.frozen (j * 5 + 2)
      have f3 := hm.frozen (j * 5 + 3)
      have f4 := hm.frozen (j * 5 + 4)
      obtain ⟨x, hx⟩ : ∃ x : Int, x = k0 + ((j * 5 : Nat) : Int) := ⟨_, rfl⟩
      have x0 : 0 ≤ x := by omega
      have x1 : x ≤ 4611686018427387904 := by omega
      rw [← hx]
      have HXX := Lib.hid hx
      clear hm hg hx
      go_wp2_with fail
      go_roundw
      case rel => exact ⟨j + 1, by omega, by go_num, ival (by have := HXX.out; omega), HM.out.step HXX.out, ((((HG.out.setCell rfl _).setCell rfl _).setCell rfl _).setCell rfl _).setCell rfl _⟩
      case measure => simp [intOf]; omega
    · obtain rfl : j = n := by omega
      clear hm hg
      go_wp2_with fail
      go_ret
      exact ⟨rfl, HM.out, HG.out⟩
set_option maxRecDepth 100000 in
set_option maxHeartbeats 1600000 in
theorem held_from {w : World} {g M n c : Nat} {k0 : Int} (h0 : 0 ≤ k0) (h1 : k0 ≤ 1152921504606846976) (hn : n ≤ 1048576) (hM : n * 5 ≤ M) (h : MK w g M k0 n) :
    Calls Try.prog 100 #[.slice (some ⟨g, 0, none⟩) n c, .int .i64 k0] w fun e w' => e = .returned (.int .i64 (k0 + (n * 5 : Nat))) ∧ w = w' := by
  have H := Lib.hid h
  clear h
  go_enter Try.func100, Try.ntmps100
  go_wp2
  go_loop [1, 5] (fun k i => ∃ j : Nat, j ≤ n ∧ i = .int .i64 j ∧ k = .int .i64 (k0 + ((j * 5 : Nat) : Int))) (fun _ i => n - (intOf i).toNat)
  case atStart => exact ⟨0, by omega, rfl, ival (by omega)⟩
  case round =>
    obtain ⟨j, hj, rfl, rfl⟩ := hrel
    by_cases hlt : j < n
    · obtain ⟨x, hx⟩ : ∃ x : Int, x = k0 + ((j * 5 : Nat) : Int) := ⟨_, rfl⟩
      have c0 := H.out.cell (i := j * 5) (by omega) hM
      have c1 := H.out.cell (i := j * 5 + 1) (by omega) hM
      have c2 := H.out.cell (i := j * 5 + 2) (by omega) hM
      have c3 := H.out.cell (i := j * 5 + 3) (by omega) hM
      have c4 := H.out.cell (i := j * 5 + 4) (by omega) hM
      rw [show k0 + ((j * 5 : Nat) : Int) = x from hx.symm] at c0
      rw [show k0 + ((j * 5 + 1 : Nat) : Int) = x + 1 by omega] at c1
      rw [show k0 + ((j * 5 + 2 : Nat) : Int) = x + 1 + 1 by omega] at c2
      rw [show k0 + ((j * 5 + 3 : Nat) : Int) = x + 1 + 1 + 1 by omega] at c3
      rw [show k0 + ((j * 5 + 4 : Nat) : Int) = x + 1 + 1 + 1 + 1 by omega] at c4
      have x0 : 0 ≤ x := by omega
      have x1 : x ≤ 4611686018427387904 := by omega
      rw [← hx]
      have HXX := Lib.hid hx
      clear hx
      go_wp2_with fail
      go_round
      case rel => exact ⟨j + 1, by omega, by go_num, ival (by have := HXX.out; omega)⟩
      case measure => simp [intOf]; omega
    · obtain rfl : j = n := by omega
      go_wp2_with fail
      go_ret
      exact ⟨rfl, rfl⟩
/-! a slice of slices -/
/-- block N holds the n rows; the first j of them bear the marks from k0 on, one behind the other -/
def MS (w : World) (N n : Nat) (ll : List (List Ver)) (k0 : Int) (j : Nat) : Prop :=
  ∃ (f : Nat → Value) (Mf : Nat → Nat), w.rowIs N 100 n f ∧ (∀ i j, i < j → j < n → Mf i < Mf j) ∧ ∀ i l, ll[i]? = some l → f i = .slice (some ⟨Mf i, 0, none⟩) l.length l.length ∧ N < Mf i ∧ MK w (Mf i) (l.length * 5) (k0 + ((cnt (ll.take i) * 5 : Nat) : Int)) (if i < j then l.length else 0)
section
variable {w w' : World} {N n j : Nat} {ll : List (List Ver)} {k0 : Int}
theorem MS.of_rr (h : RR w N n ll n) (hl : ll.length = n) (k0 : Int) : MS w N n ll k0 0 := by
  obtain ⟨f, Mf, hf, hz, hd, hr⟩ := h
  refine ⟨f, Mf, hf, hd, fun i l hx => ?_⟩
  have hk := lt_get hx
  obtain ⟨h1, h2, h3⟩ := hr i l (by omega) hx
  exact ⟨h1, h2, by rw [if_neg (by omega)]; exact MK.of_row h3 _⟩
theorem MS.lt (h : MS w N n ll k0 j) : N < w.heap.size := by obtain ⟨f, Mf, hf, _⟩ := h; exact hf.lt
theorem MS.at_ (h : MS w N n ll k0 j) (hl : ll.length = n) {i : Nat} (hi : i < n) : ∃ l M, ll[i]? = some l ∧ w.cell? ⟨N, i, none⟩ = some (.slice (some ⟨M, 0, none⟩) l.length l.length) ∧ N < M ∧ M < w.heap.size ∧ MK w M (l.length * 5) (k0 + ((cnt (ll.take i) * 5 : Nat) : Int)) (if i < j then l.length else 0) := by
  obtain ⟨f, Mf, hf, hd, hr⟩ := h
  have hg : ll[i]? = some (ll[i]'(by omega)) := List.getElem?_eq_getElem (by omega)
  obtain ⟨h1, h2, h3⟩ := hr i _ hg
  exact ⟨_, Mf i, hg, by rw [hf.cell hi, h1], h2, h3.lt, h3⟩
theorem MS.below (h : MS w N n ll k0 j) (hb : Below w.heap.size w w') : MS w' N n ll k0 j := by
  obtain ⟨f, Mf, hf, hd, hr⟩ := h
  refine ⟨f, Mf, hf.of_block (hb.block N hf.lt), hd, fun i l hx => ?_⟩
  obtain ⟨h1, h2, h3⟩ := hr i l hx
  exact ⟨h1, h2, h3.of_block (hb.block _ h3.lt)⟩
theorem MS.off {S : Nat → Prop} (h : MS w N n ll k0 j) (hb : Off S w w') (hS : ∀ k, S k → k < N) : MS w' N n ll k0 j := by
  obtain ⟨f, Mf, hf, hd, hr⟩ := h
  refine ⟨f, Mf, hf.of_block (hb.block N fun hs => by have := hS N hs; omega), hd, fun i l hx => ?_⟩
  obtain ⟨h1, h2, h3⟩ := hr i l hx
  exact ⟨h1, h2, h3.of_block (hb.block _ fun hs => by have := hS _ hs; omega)⟩
/-- row j is marked -/
theorem MS.step (h : MS w N n ll k0 j) (hl : ll.length = n) (hj : j < n) {l : List Ver} {M : Nat} (hx : ll[j]? = some l) (hc : w.cell? ⟨N, j, none⟩ = some (.slice (some ⟨M, 0, none⟩) l.length l.length)) (ho : Off (fun k => k = M) w w') (hm : MK w' M (l.length * 5) (k0 + ((cnt (ll.take j) * 5 : Nat) : Int)) l.length) : MS w' N n ll k0 (j + 1) := by
  obtain ⟨f, Mf, hf, hd, hr⟩ := h
  obtain ⟨g1, g2, g3⟩ := hr j l hx
  rw [hf.cell hj, g1] at hc
  simp only [Option.some.injEq, Value.slice.injEq, Addr.mk.injEq, and_true, true_and] at hc
  obtain rfl := hc
  refine ⟨f, Mf, hf.of_block (ho.block N (fun e => absurd (show N = Mf j from e) (by omega))), hd, fun i l' hx' => ?_⟩
  obtain ⟨h1, h2, h3⟩ := hr i l' hx'
  have hi := lt_get hx'
  by_cases e : i = j
  · subst e
    rw [hx] at hx'
    injection hx' with hx'
    subst hx'
    exact ⟨h1, h2, by rw [if_pos (by omega)]; exact hm⟩
  · have hne : Mf i ≠ Mf j := by
      rcases Nat.lt_or_gt_of_ne e with h | h
      · have := hd i j h hj; omega
      · have := hd j i h (by omega); omega
    refine ⟨h1, h2, ?_⟩
    have h4 := h3.of_block (ho.block (Mf i) hne)
    by_cases hlt : i < j
    · rw [if_pos hlt] at h4; rw [if_pos (by omega)]; exact h4
    · rw [if_neg hlt] at h4; rw [if_neg (by omega)]; exact h4
end
set_option maxRecDepth 100000 in
set_option maxHeartbeats 1600000 in
theorem mark_rows {v w : World} {N n c : Nat} {ll : List (List Ver)} {k0 : Int} (h0 : 0 ≤ k0) (h1 : k0 ≤ 1048576) (hl : ll.length = n) (hn : n ≤ 1048576) (hc : cnt ll ≤ 1048576) (hv : MS v N n ll k0 0) (hbv : Below v.heap.size v w) :
    Calls Try.prog 78 #[.slice (some ⟨N, 0, none⟩) n c, .int .i64 k0] w fun e w' => e = .returned (.int .i64 (k0 + ((cnt ll * 5 : Nat) : Int))) ∧ MS w' N n ll k0 n ∧ Off (fun k => N < k ∧ k < v.heap.size) w w' := by
  have h := hv.below hbv
  have HV := Lib.hid hv
  have HBV := Lib.hid hbv
  clear hv hbv
  have H := Lib.hid h
  clear h
  go_enter Try.func78, Try.ntmps78
  go_wp2
  go_loopw [1, 5] (fun k i wr => ∃ j : Nat, j ≤ n ∧ i = .int .i64 j ∧ k = .int .i64 (k0 + ((cnt (ll.take j) * 5 : Nat) : Int)) ∧ MS wr N n ll k0 j ∧ Off (fun k => N < k ∧ k < v.heap.size) w wr) (fun _ i _ => n - (intOf i).toNat)
  case atStart => exact ⟨0, by omega, rfl, ival (by simp [cnt]), H.out, Off.refl _ _⟩
  case round =>
    obtain ⟨j, hj, rfl, rfl, hm, hg⟩ := hrel
    have HM := Lib.hid hm
    have HG := Lib.hid hg
    have hgs := hg.size
    by_cases hlt : j < n
    · obtain ⟨l, M, hx, hcell, hNM, hM, hmk⟩ := hm.at_ hl hlt
      rw [if_neg (by omega)] at hmk
      obtain ⟨l2, M2, hx2, hcell2, hNM2, hMv, _⟩ := HV.out.at_ hl hlt
      obtain rfl : M = M2 := by
        have e1 := (hg.cell (p := ⟨N, j, none⟩) (fun e => absurd (show N < N from e.1) (by omega))).trans ((HBV.out.cell (p := ⟨N, j, none⟩) (by simp; omega)).trans hcell2)
        rw [hcell] at e1
        simp only [Option.some.injEq, Value.slice.injEq, Addr.mk.injEq] at e1
        exact e1.1.1
      clear hx2 hcell2 hNM2
      have HMK := Lib.hid hmk
      have HC := Lib.hid hcell
      have HX := Lib.hid hx
      have hlen := len_le hx
      have hct := cnt_take hx
      have hcl := cnt_le ll j
      obtain ⟨x, hxx⟩ : ∃ x : Int, x = k0 + ((cnt (ll.take j) * 5 : Nat) : Int) := ⟨_, rfl⟩
      have x0 : 0 ≤ x := by omega
      have x1 : x ≤ 1152921504606846976 := by omega
      rw [← hxx]
      have HXX := Lib.hid hxx
      clear hm hg hmk hx hxx
      go_wp2_with fail
      refine (mark_from (k0 := x) x0 x1 (by omega) (Nat.le_refl _) (by rw [HXX.out]; exact HMK.out)).mono ?_
      rintro e W1 ⟨rfl, hm1, ho1⟩
      have hm2 := HM.out.step hl hlt HX.out HC.out ho1 (by rw [← HXX.out]; exact hm1)
      have HM2 := Lib.hid hm2
      have HO := Lib.hid (HG.out.trans (ho1.wide (T := fun k => N < k ∧ k < v.heap.size) (by rintro k rfl; exact ⟨hNM, hMv⟩)))
      clear hm1 hm2 ho1 hcell
      go_wp2_with fail
      go_roundw
      case rel => exact ⟨j + 1, by omega, by go_num, ival (by have := HXX.out; omega), HM2.out, HO.out⟩
      case measure => simp [intOf]; omega
    · obtain rfl : j = n := by omega
      have ha := cnt_all hl
      rw [ha]
      clear hm hg
      go_wp2_with fail
      go_ret
      exact ⟨rfl, HM.out, HG.out⟩
set_option maxRecDepth 100000 in
set_option maxHeartbeats 1600000 in
theorem held_rows {w : World} {N n c : Nat} {ll : List (List Ver)} {k0 : Int} (h0 : 0 ≤ k0) (h1 : k0 ≤ 1048576) (hl : ll.length = n) (hn : n ≤ 1048576) (hc : cnt ll ≤ 1048576) (h : MS w N n ll k0 n) :
    Calls Try.prog 81 #[.slice (some ⟨N, 0, none⟩) n c, .int .i64 k0] w fun e w' => e = .returned (.int .i64 (k0 + ((cnt ll * 5 : Nat) : Int))) ∧ w = w' := by
  have H := Lib.hid h
  clear h
  go_enter Try.func81, Try.ntmps81
  go_wp2
  go_loop [1, 5] (fun k i => ∃ j : Nat, j ≤ n ∧ i = .int .i64 j ∧ k = .int .i64 (k0 + ((cnt (ll.take j) * 5 : Nat) : Int))) (fun _ i => n - (intOf i).toNat)
  case atStart => exact ⟨0, by omega, rfl, ival (by simp [cnt])⟩
  case round =>
    obtain ⟨j, hj, rfl, rfl⟩ := hrel
    by_cases hlt : j < n
    · obtain ⟨l, M, hx, hcell, hNM, hM, hmk⟩ := H.out.at_ hl hlt
      rw [if_pos hlt] at hmk
      have HMK := Lib.hid hmk
      have hlen := len_le hx
      have hct := cnt_take hx
      have hcl := cnt_le ll j
      obtain ⟨x, hxx⟩ : ∃ x : Int, x = k0 + ((cnt (ll.take j) * 5 : Nat) : Int) := ⟨_, rfl⟩
      have x0 : 0 ≤ x := by omega
      have x1 : x ≤ 1152921504606846976 := by omega
      have x2 : decide (x + ((l.length * 5 : Nat) : Int) < 0) = false := decide_eq_false (by omega)
      rw [← hxx]
      have HXX := Lib.hid hxx
      clear hmk hx hxx
      go_wp2_with fail
      refine (held_from (k0 := x) x0 x1 (by omega) (Nat.le_refl _) (by rw [HXX.out]; exact HMK.out)).mono ?_
      rintro e W1 ⟨rfl, rfl⟩
      go_wp2_with fail
      go_round
      case rel => exact ⟨j + 1, by omega, by go_num, ival (by have := HXX.out; omega)⟩
      case measure => simp [intOf]; omega
    · obtain rfl : j = n := by omega
      have ha := cnt_all hl
      rw [ha]
      go_wp2_with fail
      go_ret
      exact ⟨rfl, rfl⟩
/-! a store -/
theorem mark_store {v w : World} {N n c : Nat} {ll : List (List Ver)} {k0 : Int} (h0 : 0 ≤ k0) (h1 : k0 ≤ 1048576) (hl : ll.length = n) (hn : n ≤ 1048576) (hc : cnt ll ≤ 1048576) (h : MS v N n ll k0 0) (hbv : Below v.heap.size v w) :
    Calls Try.prog 39 #[.agg #[.slice (some ⟨N, 0, none⟩) n c], .int .i64 k0] w fun e w' => e = .returned (.int .i64 (k0 + ((cnt ll * 5 : Nat) : Int))) ∧ MS w' N n ll k0 n ∧ w.heap.size ≤ w'.heap.size ∧ w'.os = w.os ∧ w'.tape = w.tape ∧ w'.output = w.output ∧ ∀ k, ¬ (N < k ∧ k < v.heap.size) → k < w.heap.size → w'.heap[k]? = w.heap[k]? := by
  have H := Lib.hid h
  have HBV := Lib.hid hbv
  clear h hbv
  go_enter Try.func39, Try.ntmps39
  go_wp2_with fail
  have hb := new1 w (.cells #[.slice (some ⟨N, 0, none⟩) n c] 24)
  generalize w.alloc _ = W0 at hb ⊢
  have HB := Lib.hid hb
  have hbv := HBV.out.trans (hb.mono HBV.out.size)
  clear hb
  refine (mark_rows h0 h1 hl hn hc H.out hbv).mono ?_
  rintro e W1 ⟨rfl, hm, ho⟩
  have HM := Lib.hid hm
  have HO := Lib.hid ho
  clear hm ho hbv
  go_wp2_with fail
  go_ret
  exact ⟨rfl, HM.out, by rw [HO.out.size]; exact HB.out.size, HO.out.os.trans HB.out.os, HO.out.tape.trans HB.out.tape, HO.out.output.trans HB.out.output, fun k hk hlt => (HO.out.block k hk).trans (HB.out.block k hlt)⟩
theorem held_store {w : World} {N n c : Nat} {ll : List (List Ver)} {k0 : Int} (h0 : 0 ≤ k0) (h1 : k0 ≤ 1048576) (hl : ll.length = n) (hn : n ≤ 1048576) (hc : cnt ll ≤ 1048576) (h : MS w N n ll k0 n) :
    Calls Try.prog 43 #[.agg #[.slice (some ⟨N, 0, none⟩) n c], .int .i64 k0] w fun e w' => e = .returned (.int .i64 (k0 + ((cnt ll * 5 : Nat) : Int))) ∧ Below w.heap.size w w' := by
  have H := Lib.hid h
  have x2 : decide (k0 + ((cnt ll * 5 : Nat) : Int) < 0) = false := decide_eq_false (by omega)
  clear h
  go_enter Try.func43, Try.ntmps43
  go_wp2_with fail
  have hb := new1 w (.cells #[.slice (some ⟨N, 0, none⟩) n c] 24)
  generalize w.alloc _ = W0 at hb ⊢
  have HB := Lib.hid hb
  have h2 := H.out.below hb
  clear hb
  refine (held_rows h0 h1 hl hn hc h2).mono ?_
  rintro e W1 ⟨rfl, rfl⟩
  clear h2
  go_wp2_with fail
  go_ret
  exact ⟨rfl, HB.out⟩
end Go.Proofs.Ytjnlbhmddhpmaaa.marks
