/- The program's and the model's EqualStores: what each answers; nothing that was there is written. -/
import Derived.Test.YtjnlbhmddhpmaaaSt
import Derived.Test.YtjnlbhmddhpmaaaEq
import Derived.WalkKit
import Derived.ProofKit
import Derived.Below
import Derived.Lib.Hide
import Derived.LoopTactic
import Derived.Deep.QuietTactic
import Derived.BigQuiet
import Derived.StillTailTactics
import Derived.Outline
import Derived.IntWalk
namespace Go.Proofs.Ytjnlbhmddhpmaaa.eqst
open Go.ChangeShapes Go.WideShapes Go.ChangeAt Go.RowKit
open Go.Proofs.Ytjnlbhmddhpmaaa.vers Go.Proofs.Ytjnlbhmddhpmaaa.sl Go.Proofs.Ytjnlbhmddhpmaaa.ch Go.Proofs.Ytjnlbhmddhpmaaa.st
open Go.Proofs.Ytjnlbhmddhpmaaa.eqs (lB spec_equal impl_equal)
set_option linter.unusedVariables false
set_option linter.unusedSimpArgs false
def rB (l m : List (List Ver)) : Bool := decide (l = m)
theorem rB_len {l m : List (List Ver)} (h : l.length ≠ m.length) : rB l m = false := decide_eq_false fun e => h (by rw [e])
theorem lB_of {l m : List Ver} (h : lB l m = true) : l = m := of_decide_eq_true h
theorem rB_at {l m : List (List Ver)} {k : Nat} {x y : List Ver} (hx : l[k]? = some x) (hy : m[k]? = some y) (h : lB x y = false) : rB l m = false := by
  refine decide_eq_false fun e => of_decide_eq_false h ?_
  rw [e, hy] at hx
  exact (Option.some.inj hx).symm
theorem rB_all {l m : List (List Ver)} {n : Nat} (hl : l.length = n) (hm : m.length = n) (h : l.take n = m.take n) : rB l m = true := by
  refine decide_eq_true ?_
  rwa [List.take_of_length_le (by omega), List.take_of_length_le (by omega)] at h
theorem take_more {l m : List (List Ver)} {k : Nat} {x y : List Ver} (h : l.take k = m.take k) (hx : l[k]? = some x) (hy : m[k]? = some y) (he : lB x y = true) : l.take (k + 1) = m.take (k + 1) := by
  have hl := lt_get hx
  have hm := lt_get hy
  have := lB_of he
  subst this
  rw [List.getElem?_eq_getElem hl] at hx
  rw [List.getElem?_eq_getElem hm] at hy
  rw [List.take_succ_eq_append_getElem hl, List.take_succ_eq_append_getElem hm, h, Option.some.inj hx, Option.some.inj hy]
set_option maxRecDepth 100000 in
set_option maxHeartbeats 1600000 in
theorem spec_stores {w : World} {B n n2 c c2 : Nat} {A A2 : Option Addr} {ll mm : List (List Ver)} (hn : n ≤ 140737488355328) (hn2 : n2 ≤ 140737488355328) (h1 : Rs w B A n ll) (h2 : Rs w B A2 n2 mm) (hB : B ≤ w.heap.size) :
    Calls Try.prog 59 #[.agg #[.slice A n c], .agg #[.slice A2 n2 c2]] w fun e w' => e = .returned (.bool (rB ll mm)) ∧ Below w.heap.size w w' := by
  have H1 := Lib.hid h1
  have H2 := Lib.hid h2
  have hl1 := h1.1
  have hl2 := h2.1
  clear h1 h2
  by_cases hne : n = n2
  case neg =>
    have t : ((n : Int) == (n2 : Int)) = false := by simp; omega
    have hr := rB_len (l := ll) (m := mm) (by omega)
    have HR := Lib.hid hr
    clear hr
    go_enter Try.func59, Try.ntmps59
    go_wp2_with fail
    go_ret
    exact ⟨ret_bool HR.out.symm, new2 _ _ _⟩
  subst hne
  go_enter Try.func59, Try.ntmps59
  go_wp2
  have z0 := up (.cells #[.slice A2 n c2] 24) (one_cell w (.slice A n c) 24) (by simp)
  have z1 : ((w.alloc (.cells #[.slice A n c] 24)).alloc (.cells #[.slice A2 n c2] 24)).cell? ⟨w.heap.size + 1, 0, none⟩ = some (.slice A2 n c2) := by
    simp
  have hb0 := new2 w (.cells #[.slice A n c] 24) (.cells #[.slice A2 n c2] 24)
  have hs0 : ((w.alloc (.cells #[.slice A n c] 24)).alloc (.cells #[.slice A2 n c2] 24)).heap.size = w.heap.size + 2 := by simp
  generalize (w.alloc _).alloc _ = w0 at z0 z1 hb0 hs0 ⊢
  have HB0 := Lib.hid hb0
  have Z0 := Lib.hid z0
  have Z1 := Lib.hid z1
  clear hb0 z0 z1
  go_loopw [5] (fun i wr => ∃ k : Nat, k ≤ n ∧ i = .int .i64 k ∧ ll.take k = mm.take k ∧ Below w0.heap.size w0 wr) (fun i _ => n - (intOf i).toNat)
  case atStart => exact ⟨0, by omega, rfl, rfl, Below.refl _ _⟩
  case round =>
    obtain ⟨k, hk, rfl, ht, hb⟩ := hrel
    have HT := Lib.hid ht
    have c0 := (hb.cell (p := ⟨w.heap.size, 0, none⟩) (by simp; omega)).trans Z0.out
    have c1 := (hb.cell (p := ⟨w.heap.size + 1, 0, none⟩) (by simp; omega)).trans Z1.out
    have hbw := HB0.out.trans (hb.mono (by omega))
    have hs1 := hb.size
    have HB := Lib.hid hb
    have HBw := Lib.hid hbw
    clear ht hb
    by_cases hlt : k < n
    · obtain ⟨b, o, l, A', n', c', rfl, hbB, hx, hc, hn', hv⟩ := (H1.out.below (below_le hbw hB)).at_ hlt
      obtain ⟨b', o', l', A'', n'', c'', rfl, hbB', hx', hc', hn'', hv'⟩ := (H2.out.below (below_le hbw hB)).at_ hlt
      have HX := Lib.hid hx
      have HX' := Lib.hid hx'
      have HV := Lib.hid hv
      have HV' := Lib.hid hv'
      clear hbw hx hx' hv hv'
      rcases he : lB l l' with _ | _
      · have HE := Lib.hid he
        clear he
        go_wp2_with fail
        go_still_tail 10, (by kernel_rfl)
        change wpList _ _ _ _ _ wr.drew
        go_wp2_with fail
        refine (spec_equal (w := wr.drew) (B := B) hn' hn'' HV.out HV'.out (by simp; omega)).mono ?_
        rintro e W1 ⟨rfl, hb1⟩
        rw [HE.out]
        have HB1 := Lib.hid hb1
        clear hb1
        go_wp2_with fail
        go_ret
        exact ⟨ret_bool (rB_at HX.out HX'.out HE.out).symm, HBw.out.drew.trans (HB1.out.mono HBw.out.size)⟩
      · have HE := Lib.hid he
        clear he
        go_wp2_with fail
        go_still_tail 10, (by kernel_rfl)
        change wpList _ _ _ _ _ wr.drew
        go_wp2_with fail
        refine (spec_equal (w := wr.drew) (B := B) hn' hn'' HV.out HV'.out (by simp; omega)).mono ?_
        rintro e W1 ⟨rfl, hb1⟩
        rw [HE.out]
        have HB1 := Lib.hid hb1
        clear hb1
        go_wp2_with fail
        go_roundw
        case rel => exact ⟨k + 1, by omega, by go_num, take_more HT.out HX.out HX'.out HE.out, HB.out.drew.trans (HB1.out.mono HB.out.size)⟩
        case measure => simp [intOf]; omega
    · obtain rfl : k = n := by omega
      have hr := rB_all hl1 hl2 HT.out
      have HR := Lib.hid hr
      clear hbw hr
      go_wp2_with fail
      go_ret
      exact ⟨ret_bool HR.out.symm, HBw.out⟩
set_option maxRecDepth 100000 in
set_option maxHeartbeats 1600000 in
theorem lib_stores {w : World} {B n n2 c c2 : Nat} {A A2 : Option Addr} {ll mm : List (List Ver)} (hn : n ≤ 140737488355328) (hn2 : n2 ≤ 140737488355328) (h1 : Rs w B A n ll) (h2 : Rs w B A2 n2 mm) (hB : B ≤ w.heap.size) :
    Calls Try.prog 91 #[.slice A n c, .slice A2 n2 c2, .func (.func 92) #[] #[]] w fun e w' => e = .returned (.bool (rB ll mm)) ∧ Below w.heap.size w w' := by
  have H1 := Lib.hid h1
  have H2 := Lib.hid h2
  have hl1 := h1.1
  have hl2 := h2.1
  clear h1 h2
  by_cases hne : n = n2
  case neg =>
    have t : ((n : Int) == (n2 : Int)) = false := by simp; omega
    have hr := rB_len (l := ll) (m := mm) (by omega)
    have HR := Lib.hid hr
    clear hr
    go_enter Try.func91, Try.ntmps91
    go_wp2_with fail
    go_ret
    exact ⟨ret_bool HR.out.symm, Below.refl _ _⟩
  subst hne
  go_enter Try.func91, Try.ntmps91
  go_wp2
  go_loopw [17] (fun i wr => ∃ k : Nat, k ≤ n ∧ i = .int .i64 k ∧ ll.take k = mm.take k ∧ Below w.heap.size w wr) (fun i _ => n - (intOf i).toNat)
  case atStart => exact ⟨0, by omega, rfl, rfl, Below.refl _ _⟩
  case round =>
    obtain ⟨k, hk, rfl, ht, hb⟩ := hrel
    have HT := Lib.hid ht
    have HB := Lib.hid hb
    clear ht
    by_cases hlt : k < n
    · obtain ⟨b, o, l, A', n', c', rfl, hbB, hx, hc, hn', hv⟩ := (H1.out.below (below_le hb hB)).at_ hlt
      obtain ⟨b', o', l', A'', n'', c'', rfl, hbB', hx', hc', hn'', hv'⟩ := (H2.out.below (below_le hb hB)).at_ hlt
      have HX := Lib.hid hx
      have HX' := Lib.hid hx'
      have HV := Lib.hid hv
      have HV' := Lib.hid hv'
      have hs1 := hb.size
      clear hb hx hx' hv hv'
      rcases he : lB l l' with _ | _
      · have HE := Lib.hid he
        clear he
        go_wp2_with fail
        refine (impl_equal (B := B) hn' hn'' HV.out HV'.out (by omega)).mono ?_
        rintro e W1 ⟨rfl, hb1⟩
        rw [HE.out]
        have HB1 := Lib.hid hb1
        clear hb1
        go_wp2_with fail
        go_ret
        exact ⟨ret_bool (rB_at HX.out HX'.out HE.out).symm, HB.out.trans (HB1.out.mono HB.out.size)⟩
      · have HE := Lib.hid he
        clear he
        go_wp2_with fail
        refine (impl_equal (B := B) hn' hn'' HV.out HV'.out (by omega)).mono ?_
        rintro e W1 ⟨rfl, hb1⟩
        rw [HE.out]
        have HB1 := Lib.hid hb1
        clear hb1
        go_wp2_with fail
        go_roundw
        case rel => exact ⟨k + 1, by omega, by go_num, take_more HT.out HX.out HX'.out HE.out, HB.out.trans (HB1.out.mono HB.out.size)⟩
        case measure => simp [intOf]; omega
    · obtain rfl : k = n := by omega
      have hr := rB_all hl1 hl2 HT.out
      have HR := Lib.hid hr
      clear hb hr
      go_wp2_with fail
      go_ret
      exact ⟨ret_bool HR.out.symm, HB.out⟩
theorem impl_stores {w : World} {B n n2 c c2 : Nat} {A A2 : Option Addr} {ll mm : List (List Ver)} (hn : n ≤ 140737488355328) (hn2 : n2 ≤ 140737488355328) (h1 : Rs w B A n ll) (h2 : Rs w B A2 n2 mm) (hB : B ≤ w.heap.size) :
    Calls Try.prog 61 #[.agg #[.slice A n c], .agg #[.slice A2 n2 c2]] w fun e w' => e = .returned (.bool (rB ll mm)) ∧ Below w.heap.size w w' := by
  have H1 := Lib.hid h1
  have H2 := Lib.hid h2
  clear h1 h2
  go_enter Try.func61, Try.ntmps61
  go_wp2_with fail
  have hb0 := new2 w (.cells #[.slice A n c] 24) (.cells #[.slice A2 n2 c2] 24)
  generalize (w.alloc _).alloc _ = W0 at hb0 ⊢
  have HB0 := Lib.hid hb0
  have hs := hb0.size
  have h1 := Lib.hid (H1.out.below (below_le hb0 hB))
  have h2 := Lib.hid (H2.out.below (below_le hb0 hB))
  clear hb0
  refine (lib_stores hn hn2 h1.out h2.out (by omega)).mono ?_
  rintro e W1 ⟨rfl, hb1⟩
  have HB1 := Lib.hid (HB0.out.trans (hb1.mono (by omega)))
  clear hb1
  go_wp2_with fail
  go_ret
  exact ⟨rfl, HB1.out⟩
end Go.Proofs.Ytjnlbhmddhpmaaa.eqst
