/- The program's and the model's CountVersions: what each answers; nothing that was there is written. -/
import Derived.Test.YtleeglgjaifejaaDoorSt
import Derived.WalkKit
import Derived.ProofKit
import Derived.Below
import Derived.Lib.Hide
import Derived.LoopTactic
import Derived.Outline
import Derived.IntWalk
namespace Go.Proofs.YtleeglgjaifejaaDoor.cnts
open Go.ChangeShapes Go.WideShapes Go.ChangeAt Go.RowKit
open Go.Proofs.YtleeglgjaifejaaDoor.vers Go.Proofs.YtleeglgjaifejaaDoor.sl Go.Proofs.YtleeglgjaifejaaDoor.ch Go.Proofs.YtleeglgjaifejaaDoor.st
set_option linter.unusedVariables false
set_option linter.unusedSimpArgs false
set_option maxRecDepth 100000 in
set_option maxHeartbeats 800000 in
theorem spec_count {w : World} {B n c : Nat} {A : Option Addr} {ll : List (List Ver)} (hn : n ≤ 140737488355328) (hc : cnt ll ≤ 4611686018427387904) (h1 : Rs w B A n ll) (hB : B ≤ w.heap.size) :
    Calls Tryd.prog 13 #[.agg #[.slice A n c]] w fun e w' => e = .returned (.int .i64 (cnt ll)) ∧ Below w.heap.size w w' := by
  have H1 := Lib.hid h1
  have hln := h1.1
  clear h1
  go_enter Tryd.func13, Tryd.ntmps13
  go_wp2
  have z0 := one_cell w (.slice A n c) 26
  have hb0 := new1 w (.cells #[.slice A n c] 26)
  have hs0 : (w.alloc (.cells #[.slice A n c] 26)).heap.size = w.heap.size + 1 := by simp
  generalize w.alloc _ = w0 at z0 hb0 hs0 ⊢
  have HB0 := Lib.hid hb0
  have H0 := Lib.hid (H1.out.below (below_le hb0 hB))
  clear hb0
  go_loopw [3, 4] (fun x i wr => ∃ k : Nat, k ≤ n ∧ i = .int .i64 k ∧ x = .int .i64 (cnt (ll.take k)) ∧ w0 = wr) (fun _ i _ => n - (intOf i).toNat)
  case atStart => exact ⟨0, by omega, rfl, by simp [cnt], rfl⟩
  case round =>
    obtain ⟨k, hk, rfl, rfl, rfl⟩ := hrel
    by_cases hlt : k < n
    · obtain ⟨b, o, l, A', n', c', rfl, hbB, hx, hcell, hn', hv⟩ := H0.out.at_ hlt
      have h2 := cnt_take hx
      have h3 := cnt_le ll (k + 1)
      have hl1 := hv.1
      clear hx hv
      go_wp2_with fail
      go_roundw
      case rel => exact ⟨k + 1, by omega, by go_num, by rw [h2, ← hl1]; go_num, by first | rfl | trivial⟩
      case measure => simp [intOf]; omega
    · obtain rfl : k = n := by omega
      have ha := cnt_all hln
      rw [ha]
      go_wp2_with fail
      go_ret
      exact ⟨rfl, HB0.out⟩
set_option maxRecDepth 100000 in
set_option maxHeartbeats 800000 in
theorem impl_count {w : World} {B n c : Nat} {A : Option Addr} {ll : List (List Ver)} (hn : n ≤ 140737488355328) (hc : cnt ll ≤ 4611686018427387904) (h1 : Rs w B A n ll) (hB : B ≤ w.heap.size) :
    Calls Tryd.prog 12 #[.agg #[.slice A n c]] w fun e w' => e = .returned (.int .i64 (cnt ll)) ∧ Below w.heap.size w w' := by
  have H1 := Lib.hid h1
  have hln := h1.1
  clear h1
  go_enter Tryd.func12, Tryd.ntmps12
  go_wp2
  have z0 := one_cell w (.slice A n c) 26
  have hb0 := new1 w (.cells #[.slice A n c] 26)
  have hs0 : (w.alloc (.cells #[.slice A n c] 26)).heap.size = w.heap.size + 1 := by simp
  generalize w.alloc _ = w0 at z0 hb0 hs0 ⊢
  have HB0 := Lib.hid hb0
  have H0 := Lib.hid (H1.out.below (below_le hb0 hB))
  clear hb0
  go_loopw [3, 9] (fun x i wr => ∃ k : Nat, k ≤ n ∧ i = .int .i64 k ∧ x = .int .i64 (cnt (ll.take k)) ∧ w0 = wr) (fun _ i _ => n - (intOf i).toNat)
  case atStart => exact ⟨0, by omega, rfl, by simp [cnt], rfl⟩
  case round =>
    obtain ⟨k, hk, rfl, rfl, rfl⟩ := hrel
    by_cases hlt : k < n
    · obtain ⟨b, o, l, A', n', c', rfl, hbB, hx, hcell, hn', hv⟩ := H0.out.at_ hlt
      have h2 := cnt_take hx
      have h3 := cnt_le ll (k + 1)
      have hl1 := hv.1
      clear hx hv
      go_wp2_with fail
      go_roundw
      case rel => exact ⟨k + 1, by omega, by go_num, by rw [h2, ← hl1]; go_num, by first | rfl | trivial⟩
      case measure => simp [intOf]; omega
    · obtain rfl : k = n := by omega
      have ha := cnt_all hln
      rw [ha]
      go_wp2_with fail
      go_ret
      exact ⟨rfl, HB0.out⟩
end Go.Proofs.YtleeglgjaifejaaDoor.cnts
