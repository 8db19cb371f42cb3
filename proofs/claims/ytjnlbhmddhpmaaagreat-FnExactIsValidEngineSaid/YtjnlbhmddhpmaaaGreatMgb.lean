/- A law's argument that is a list of transactions, or an engine: what it holds. -/
import Derived.Test.YtjnlbhmddhpmaaaGreatMga
import Derived.Test.YtjnlbhmddhpmaaaGreatTvs
import Derived.Test.YtjnlbhmddhpmaaaGreatSl
import Derived.WalkKit
import Derived.ProofKit
import Derived.OpenShut
import Derived.ShutString
import Derived.ChangeOld
import Derived.Below
import Derived.Carry
import Derived.Lib.Hide
import Derived.Deep.Slices
import Derived.Deep.DeepHandedRow
import Derived.Test.YtjnlbhmddhpmaaaGreatSt
import Derived.ChangeSame
import Derived.Test.YtjnlbhmddhpmaaaGreatTs
import Derived.Test.YtjnlbhmddhpmaaaGreatRLock
import Derived.Test.YtjnlbhmddhpmaaaGreatRWait
import Derived.ChangeArms
/- l13Active and IsValidEngine of the model: what they answer. -/
namespace Go.Proofs.YtjnlbhmddhpmaaaGreat.ive
open Go.ChangeShapes Go.WideShapes Go.ChangeAt Go.RowKit
open Go.Proofs.YtjnlbhmddhpmaaaGreat.el2 Go.Proofs.YtjnlbhmddhpmaaaGreat.tx Go.Proofs.YtjnlbhmddhpmaaaGreat.seq Go.Proofs.YtjnlbhmddhpmaaaGreat.mkr Go.Proofs.YtjnlbhmddhpmaaaGreat.en Go.Proofs.YtjnlbhmddhpmaaaGreat.eid Go.Proofs.YtjnlbhmddhpmaaaGreat.ts Go.Proofs.YtjnlbhmddhpmaaaGreat.ego
open Go.Proofs.YtjnlbhmddhpmaaaGreat.ivu (AllP all_step all_yes all_no)
open Go.Proofs.YtjnlbhmddhpmaaaGreat.fnd (spec_fnd)
open Go.Proofs.YtjnlbhmddhpmaaaGreat.tv (class_region class_opk class_call class_skipk txB)
open Go.Proofs.YtjnlbhmddhpmaaaGreat.val (stB)
open Go.Proofs.YtjnlbhmddhpmaaaGreat.last (lstS)
open Go.Proofs.YtjnlbhmddhpmaaaGreat.lk (lkB)
open Go.Proofs.YtjnlbhmddhpmaaaGreat.wt (wtB)
open Go.Proofs.YtjnlbhmddhpmaaaGreat.rx (rexB)
open Go.Proofs.YtjnlbhmddhpmaaaGreat.st (Rs)
open Go.Proofs.YtjnlbhmddhpmaaaGreat.vers (ret_b new2 new3 In in_range)
open Go.Proofs.YtjnlbhmddhpmaaaGreat.sl (Ver)
set_option linter.unusedVariables false
set_option linter.unusedSimpArgs false
set_option linter.constructorNameAsVariable false
theorem impl_ive {w : World} {B n1 c1 n2 c2 n3 c3 n4 c4 : Nat} {A1 A2 A3 A4 : Option Addr} {C : List (List Ver)} {L : List Tr} {K X : List E2} (q : Bool) (z : Int) (hn1 : n1 ≤ 2097152) (hn2 : n2 ≤ 2097152) (hn3 : n3 ≤ 2097152) (hn4 : n4 ≤ 2097152) (h : ER w B A1 n1 C A2 n2 L A3 n3 K A4 n4 X) (hB : B ≤ w.heap.size) :
    Calls Tryz.prog 7 #[.agg #[.bool q, .slice A1 n1 c1, .slice A2 n2 c2, .slice A3 n3 c3, .slice A4 n4 c4, .int .i64 z]] w fun e w' => e = .returned (.bool (enB ⟨q, C, L, K, X, z⟩)) ∧ Below w.heap.size w w' :=
  Go.Proofs.YtjnlbhmddhpmaaaGreat.ivu.impl_ive q z hn1 hn2 hn3 hn4 h hB
set_option maxRecDepth 100000 in
set_option maxHeartbeats 3200000 in
theorem spec_act {w : World} {B n1 c1 n2 c2 n3 c3 n4 c4 : Nat} {A1 A2 A3 A4 : Option Addr} {C : List (List Ver)} {L : List Tr} {K X : List E2} (q : Bool) (z : Int) (i : Int) (hn1 : n1 ≤ 2097152) (hn2 : n2 ≤ 2097152) (hn3 : n3 ≤ 2097152) (hn4 : n4 ≤ 2097152) (h : ER w B A1 n1 C A2 n2 L A3 n3 K A4 n4 X) (hB : B ≤ w.heap.size) :
    Calls Tryz.prog 20 #[.agg #[.bool q, .slice A1 n1 c1, .slice A2 n2 c2, .slice A3 n3 c3, .slice A4 n4 c4, .int .i64 z], .int .i64 i] w fun e w' => e = .returned (.bool (acT L i)) ∧ Below w.heap.size w w' := by
  have HR := Lib.hid h
  have hb := new1 w (.cells #[.bool q, .slice A1 n1 c1, .slice A2 n2 c2, .slice A3 n3 c3, .slice A4 n4 c4, .int .i64 z] 39)
  have he := Go.Proofs.YtjnlbhmddhpmaaaGreat.eg.EB.new w q (.slice A1 n1 c1) (.slice A2 n2 c2) (.slice A3 n3 c3) (.slice A4 n4 c4) z 39
  have hz2 : (w.alloc (.cells #[.bool q, .slice A1 n1 c1, .slice A2 n2 c2, .slice A3 n3 c3, .slice A4 n4 c4, .int .i64 z] 39)).heap.size = w.heap.size + 1 := by simp
  rcases fnd_cases i L with ⟨k, t, hx, hi, hmin, hf⟩ | ⟨hno, hf⟩
  · have hk : k < n2 := by have := lt_of_some hx; have := h.t.1; omega
    have HF := Lib.hid hf
    have HX := Lib.hid hx
    have HA : Hid (acT L i = decide (t.x.t = 1)) := Lib.hid (by unfold acT; rw [hf, Int.toNat_natCast, hx]; simp)
    have tk : decide ((0 : Int) ≤ (k : Int)) = true := decide_eq_true (by omega)
    clear h hx hi hmin hf
    go_enter Tryz.func20, Tryz.ntmps20
    go_wp2_with fail
    generalize w.alloc _ = W0 at hb he hz2 ⊢
    have HB := Lib.hid hb
    have HE := Lib.hid he
    clear hb
    obtain ⟨e0, e1, e2, e3, e4, e5⟩ := he
    try go_wp2_with fail
    refine (spec_fnd q z i hn1 hn2 hn3 hn4 (HR.out.below (Go.Proofs.YtjnlbhmddhpmaaaGreat.el2.below_le HB.out hB)) (by omega)).mono ?_
    rintro e W1 ⟨rfl, hb⟩
    rw [HF.out]
    have HB1 := Lib.hid (HB.out.trans (hb.mono HB.out.size))
    have HE1 := Lib.hid (HE.out.keep (B := W0.heap.size) (by omega) hb)
    clear hb e0 e1 e2 e3 e4 e5
    obtain ⟨e0, e1, e2, e3, e4, e5⟩ := HE1.out
    obtain ⟨b, o, t', P1, p1, pc, P2, p2, qc, rfl, hbB, hx, ⟨a0, a1, a2, a3, a4, a5, a6, a7, a8⟩, hp1, hp2, hv, hu⟩ := (HR.out.t.below (Go.Proofs.YtjnlbhmddhpmaaaGreat.el2.below_le HB1.out hB)).at_ hk
    obtain rfl : t' = t := by rw [HX.out] at hx; exact (Option.some.inj hx).symm
    clear hx hv hu
    by_cases hs : t'.x.t = 1
    · have ts : (t'.x.t == 1) = true := by simpa using hs
      have HS : Hid (acT L i = true) := Lib.hid (by rw [HA.out]; exact decide_eq_true hs)
      clear hs
      go_wp2_with fail
      go_ret
      exact ⟨ret_b HS.out.symm, HB1.out⟩
    · have ts : (t'.x.t == 1) = false := by simpa using hs
      have HS : Hid (acT L i = false) := Lib.hid (by rw [HA.out]; exact decide_eq_false hs)
      clear hs
      go_wp2_with fail
      go_ret
      exact ⟨ret_b HS.out.symm, HB1.out⟩
  · have HF := Lib.hid hf
    have HA : Hid (acT L i = false) := Lib.hid (by unfold acT; rw [hf]; rfl)
    clear h hno hf
    go_enter Tryz.func20, Tryz.ntmps20
    go_wp2_with fail
    generalize w.alloc _ = W0 at hb he hz2 ⊢
    have HB := Lib.hid hb
    clear hb
    obtain ⟨e0, e1, e2, e3, e4, e5⟩ := he
    try go_wp2_with fail
    refine (spec_fnd q z i hn1 hn2 hn3 hn4 (HR.out.below (Go.Proofs.YtjnlbhmddhpmaaaGreat.el2.below_le HB.out hB)) (by omega)).mono ?_
    rintro e W1 ⟨rfl, hb⟩
    rw [HF.out]
    have HB1 := Lib.hid (HB.out.trans (hb.mono HB.out.size))
    clear hb
    go_wp2_with fail
    go_ret
    exact ⟨ret_b HA.out.symm, HB1.out⟩
set_option maxRecDepth 100000 in
set_option maxHeartbeats 12800000 in
theorem spec_ive {w : World} {B n1 c1 n2 c2 n3 c3 n4 c4 : Nat} {A1 A2 A3 A4 : Option Addr} {C : List (List Ver)} {L : List Tr} {K X : List E2} (q : Bool) (z : Int) (hn1 : n1 ≤ 2097152) (hn2 : n2 ≤ 2097152) (hn3 : n3 ≤ 2097152) (hn4 : n4 ≤ 2097152) (h : ER w B A1 n1 C A2 n2 L A3 n3 K A4 n4 X) (hB : B ≤ w.heap.size) :
    Calls Tryz.prog 5 #[.agg #[.bool q, .slice A1 n1 c1, .slice A2 n2 c2, .slice A3 n3 c3, .slice A4 n4 c4, .int .i64 z]] w fun e w' => e = .returned (.bool (enB ⟨q, C, L, K, X, z⟩)) ∧ Below w.heap.size w w' := by
  have HR := Lib.hid h
  have HLN := Lib.hid h.t.1
  have HLK := Lib.hid h.k.1
  have HLX := Lib.hid h.x.1
  have hb := new1 w (.cells #[.bool q, .slice A1 n1 c1, .slice A2 n2 c2, .slice A3 n3 c3, .slice A4 n4 c4, .int .i64 z] 39)
  have he := Go.Proofs.YtjnlbhmddhpmaaaGreat.eg.EB.new w q (.slice A1 n1 c1) (.slice A2 n2 c2) (.slice A3 n3 c3) (.slice A4 n4 c4) z 39
  have hlt : w.heap.size < (w.alloc (.cells #[.bool q, .slice A1 n1 c1, .slice A2 n2 c2, .slice A3 n3 c3, .slice A4 n4 c4, .int .i64 z] 39)).heap.size := by simp
  obtain ⟨sb, hsb⟩ : ∃ b, stB C = b := ⟨_, rfl⟩
  obtain ⟨ls, hls⟩ : ∃ b, lstS C = b := ⟨_, rfl⟩
  obtain ⟨kb, hkb⟩ : ∃ b, lkB K = b := ⟨_, rfl⟩
  obtain ⟨xb, hxb⟩ : ∃ b, wtB X = b := ⟨_, rfl⟩
  obtain ⟨ib, hib⟩ : ∃ b, In ls 999 z = b := ⟨_, rfl⟩
  have HST : Hid (∀ W : World, Below w.heap.size w W → Calls Tryz.prog 13 #[.agg #[.slice A1 n1 c1]] W fun e w' => e = .returned (.bool sb) ∧ Below W.heap.size W w') := Lib.hid fun W hW => by rw [← hsb]; exact Go.Proofs.YtjnlbhmddhpmaaaGreat.val.spec_store (by omega) (HR.out.s.below (Go.Proofs.YtjnlbhmddhpmaaaGreat.sl.below_le hW hB)) (Nat.le_trans hB hW.size)
  have HLS : Hid (∀ W : World, Below w.heap.size w W → Calls Tryz.prog 17 #[.agg #[.slice A1 n1 c1]] W fun e w' => e = .returned (.int .i64 ls) ∧ Below W.heap.size W w') := Lib.hid fun W hW => by rw [← hls]; exact Go.Proofs.YtjnlbhmddhpmaaaGreat.last.spec_last (by omega) (HR.out.s.below (Go.Proofs.YtjnlbhmddhpmaaaGreat.sl.below_le hW hB)) (Nat.le_trans hB hW.size)
  have HKL : Hid (∀ W : World, Below w.heap.size w W → Calls Tryz.prog 14 #[.slice A3 n3 c3] W fun e w' => e = .returned (.bool kb) ∧ Below W.heap.size W w') := Lib.hid fun W hW => by rw [← hkb]; exact Go.Proofs.YtjnlbhmddhpmaaaGreat.lka.spec_are (by omega) (HR.out.k.below (Go.Proofs.YtjnlbhmddhpmaaaGreat.el2.below_le hW hB)) (Nat.le_trans hB hW.size)
  have HXW : Hid (∀ W : World, Below w.heap.size w W → Calls Tryz.prog 15 #[.slice A4 n4 c4] W fun e w' => e = .returned (.bool xb) ∧ Below W.heap.size W w') := Lib.hid fun W hW => by rw [← hxb]; exact Go.Proofs.YtjnlbhmddhpmaaaGreat.wta.wt_spec (by omega) (HR.out.x.below (Go.Proofs.YtjnlbhmddhpmaaaGreat.el2.below_le hW hB)) (Nat.le_trans hB hW.size)
  have HIN : Hid (∀ W : World, Calls Tryz.prog 16 #[.int .i64 z, .int .i64 ls, .int .i64 999] W fun e w' => e = .returned (.bool ib) ∧ Below W.heap.size W w') := Lib.hid fun W => by rw [← hib]; exact (in_range z ls 999 W).mono fun e w' ⟨a, c⟩ => ⟨a, by rw [← c]; exact Below.refl _ _⟩
  have HACT : Hid (∀ (W : World) (i : Int), Below w.heap.size w W → Calls Tryz.prog 20 #[.agg #[.bool q, .slice A1 n1 c1, .slice A2 n2 c2, .slice A3 n3 c3, .slice A4 n4 c4, .int .i64 z], .int .i64 i] W fun e w' => e = .returned (.bool (acT L i)) ∧ Below W.heap.size W w') := Lib.hid fun W i hW => spec_act q z i hn1 hn2 hn3 hn4 (HR.out.below (Go.Proofs.YtjnlbhmddhpmaaaGreat.el2.below_le hW hB)) (Nat.le_trans hB hW.size)
  have HEN : Hid (enB ⟨q, C, L, K, X, z⟩ = (sb && kb && xb && ib && decide (L.length ≤ 6) && sqB (okT C z) folT L && K.all (fun m => acT L m.b) && X.all (fun m => acT L m.a && acT L m.b))) := Lib.hid (by unfold enB; rw [hsb, hkb, hxb, hls, hib])
  clear h hsb hls hkb hxb hib
  cases sb with
  | false =>
    have HV : Hid (enB ⟨q, C, L, K, X, z⟩ = false) := Lib.hid (by rw [HEN.out]; simp)
    go_enter Tryz.func5, Tryz.ntmps5
    go_wp2_with fail
    generalize w.alloc _ = W0 at hb he hlt ⊢
    have HB := Lib.hid hb
    have HE := Lib.hid he
    clear hb he
    refine class_region W0.heap.size (by kernel_rfl) (by kernel_rfl) ?_
    with_reducible refine class_opk (.pointer (some ⟨w.heap.size, 1, none⟩)) ?_ ?_ ?_
    · first | exact rfl | go_simp
    · intro W hW
      go_simp
    intro KK hK
    go_simp
    with_reducible refine hK _ ?_
    clear hK KK
    with_reducible refine class_opk (.agg #[.slice A1 n1 c1]) ?_ ?_ ?_
    · first | exact rfl | go_simp
    · intro W hW
      obtain ⟨g0, g1, g2, g3, g4, g5⟩ := HE.out.keep (B := W0.heap.size) hlt hW
      go_simp
    intro KK hK
    go_simp
    with_reducible refine hK _ ?_
    clear hK KK
    with_reducible refine class_opk (.bool false) ?_ ?_ ?_
    · first | exact rfl | go_simp
    · intro W hW
      go_simp
      refine class_call hW ?_
      exact HST.out W (HB.out.trans (hW.mono HB.out.size))
    intro KK hK
    go_simp
    with_reducible refine hK _ ?_
    clear hK KK
    with_reducible refine class_opk (.bool true) ?_ ?_ ?_
    · first | exact rfl | go_simp
    · intro W hW
      go_simp
    intro KK hK
    go_simp
    with_reducible refine hK _ ?_
    clear hK KK
    with_reducible refine class_opk (.bool true) ?_ ?_ ?_
    · first | exact rfl | go_simp
    · intro W hW
      go_simp
    intro KK hK
    go_simp
    with_reducible refine hK _ ?_
    clear hK KK
    with_reducible refine class_skipk ?_ ?_
    · first | exact rfl | (go_simp; try simp [undef])
    intro KK hK
    go_simp
    with_reducible refine hK _ ?_
    clear hK KK
    with_reducible refine class_skipk ?_ ?_
    · first | exact rfl | (go_simp; try simp [undef])
    intro KK hK
    go_simp
    with_reducible refine hK _ ?_
    clear hK KK
    with_reducible refine class_skipk ?_ ?_
    · first | exact rfl | (go_simp; try simp [undef])
    intro KK hK
    go_simp
    with_reducible refine hK _ ?_
    clear hK KK
    with_reducible refine class_skipk ?_ ?_
    · first | exact rfl | (go_simp; try simp [undef])
    intro KK hK
    go_simp
    with_reducible refine hK _ ?_
    clear hK KK
    with_reducible refine class_opk (.bool true) ?_ ?_ ?_
    · first | exact rfl | go_simp
    · intro W hW
      go_simp
    intro KK hK
    go_simp
    with_reducible refine hK _ ?_
    clear hK KK
    with_reducible refine class_opk (.bool true) ?_ ?_ ?_
    · first | exact rfl | go_simp
    · intro W hW
      go_simp
    intro KK hK
    go_simp
    with_reducible refine hK _ ?_
    clear hK KK
    with_reducible refine class_skipk ?_ ?_
    · first | exact rfl | (go_simp; try simp [undef])
    intro KK hK
    go_simp
    with_reducible refine hK _ ?_
    clear hK KK
    with_reducible refine class_skipk ?_ ?_
    · first | exact rfl | (go_simp; try simp [undef])
    intro KK hK
    go_simp
    with_reducible refine hK _ ?_
    clear hK KK
    with_reducible refine class_skipk ?_ ?_
    · first | exact rfl | (go_simp; try simp [undef])
    intro KK hK
    go_simp
    with_reducible refine hK _ ?_
    clear hK KK
    with_reducible refine class_skipk ?_ ?_
    · first | exact rfl | (go_simp; try simp [undef])
    intro KK hK
    go_simp
    with_reducible refine hK _ ?_
    clear hK KK
    with_reducible refine class_opk (.bool true) ?_ ?_ ?_
    · first | exact rfl | go_simp
    · intro W hW
      go_simp
    intro KK hK
    go_simp
    with_reducible refine hK _ ?_
    clear hK KK
    with_reducible refine class_opk (.bool true) ?_ ?_ ?_
    · first | exact rfl | go_simp
    · intro W hW
      go_simp
    intro KK hK
    go_simp
    with_reducible refine hK _ ?_
    clear hK KK
    with_reducible refine class_skipk ?_ ?_
    · first | exact rfl | (go_simp; try simp [undef])
    intro KK hK
    go_simp
    with_reducible refine hK _ ?_
    clear hK KK
    with_reducible refine class_skipk ?_ ?_
    · first | exact rfl | (go_simp; try simp [undef])
    intro KK hK
    go_simp
    with_reducible refine hK _ ?_
    clear hK KK
    with_reducible refine class_skipk ?_ ?_
    · first | exact rfl | (go_simp; try simp [undef])
    intro KK hK
    go_simp
    with_reducible refine hK _ ?_
    clear hK KK
    with_reducible refine class_skipk ?_ ?_
    · first | exact rfl | (go_simp; try simp [undef])
    intro KK hK
    go_simp
    with_reducible refine hK _ ?_
    clear hK KK
    with_reducible refine class_skipk ?_ ?_
    · first | exact rfl | (go_simp; try simp [undef])
    intro KK hK
    go_simp
    with_reducible refine hK _ ?_
    clear hK KK
    with_reducible refine class_skipk ?_ ?_
    · first | exact rfl | (go_simp; try simp [undef])
    intro KK hK
    go_simp
    with_reducible refine hK _ ?_
    clear hK KK
    with_reducible refine class_skipk ?_ ?_
    · first | exact rfl | (go_simp; try simp [undef])
    intro KK hK
    go_simp
    with_reducible refine hK _ ?_
    clear hK KK
    with_reducible refine class_opk (.bool true) ?_ ?_ ?_
    · first | exact rfl | go_simp
    · intro W hW
      go_simp
    intro KK hK
    go_simp
    with_reducible refine hK _ ?_
    clear hK KK
    with_reducible refine class_opk (.bool true) ?_ ?_ ?_
    · first | exact rfl | go_simp
    · intro W hW
      go_simp
    intro KK hK
    go_simp
    with_reducible refine hK _ ?_
    clear hK KK
    with_reducible refine class_skipk ?_ ?_
    · first | exact rfl | (go_simp; try simp [undef])
    intro KK hK
    go_simp
    with_reducible refine hK _ ?_
    clear hK KK
    with_reducible refine class_skipk ?_ ?_
    · first | exact rfl | (go_simp; try simp [undef])
    intro KK hK
    go_simp
    with_reducible refine hK _ ?_
    clear hK KK
    with_reducible refine class_skipk ?_ ?_
    · first | exact rfl | (go_simp; try simp [undef])
    intro KK hK
    go_simp
    with_reducible refine hK _ ?_
    clear hK KK
    with_reducible refine class_skipk ?_ ?_
    · first | exact rfl | (go_simp; try simp [undef])
    intro KK hK
    go_simp
    with_reducible refine hK _ ?_
    clear hK KK
    with_reducible refine class_opk (.bool true) ?_ ?_ ?_
    · first | exact rfl | go_simp
    · intro W hW
      go_simp
    intro KK hK
    go_simp
    with_reducible refine hK _ ?_
    clear hK KK
    go_simp
    intro W hW
    have HBW := Lib.hid (HB.out.trans (hW.mono HB.out.size))
    have HEW := Lib.hid (HE.out.keep (B := W0.heap.size) hlt hW)
    have hlw : w.heap.size < W.heap.size := by have := hW.size; omega
    clear hW
    go_wp2_with fail
    go_ret
    exact ⟨ret_b HV.out.symm, HBW.out⟩
  | true =>
  cases kb with
  | false =>
    have HV : Hid (enB ⟨q, C, L, K, X, z⟩ = false) := Lib.hid (by rw [HEN.out]; simp)
    go_enter Tryz.func5, Tryz.ntmps5
    go_wp2_with fail
    generalize w.alloc _ = W0 at hb he hlt ⊢
    have HB := Lib.hid hb
    have HE := Lib.hid he
    clear hb he
    refine class_region W0.heap.size (by kernel_rfl) (by kernel_rfl) ?_
    with_reducible refine class_opk (.pointer (some ⟨w.heap.size, 1, none⟩)) ?_ ?_ ?_
    · first | exact rfl | go_simp
    · intro W hW
      go_simp
    intro KK hK
    go_simp
    with_reducible refine hK _ ?_
    clear hK KK
    with_reducible refine class_opk (.agg #[.slice A1 n1 c1]) ?_ ?_ ?_
    · first | exact rfl | go_simp
    · intro W hW
      obtain ⟨g0, g1, g2, g3, g4, g5⟩ := HE.out.keep (B := W0.heap.size) hlt hW
      go_simp
    intro KK hK
    go_simp
    with_reducible refine hK _ ?_
    clear hK KK
    with_reducible refine class_opk (.bool true) ?_ ?_ ?_
    · first | exact rfl | go_simp
    · intro W hW
      go_simp
      refine class_call hW ?_
      exact HST.out W (HB.out.trans (hW.mono HB.out.size))
    intro KK hK
    go_simp
    with_reducible refine hK _ ?_
    clear hK KK
    with_reducible refine class_opk (.bool false) ?_ ?_ ?_
    · first | exact rfl | go_simp
    · intro W hW
      go_simp
    intro KK hK
    go_simp
    with_reducible refine hK _ ?_
    clear hK KK
    with_reducible refine class_opk (.bool false) ?_ ?_ ?_
    · first | exact rfl | go_simp
    · intro W hW
      go_simp
    intro KK hK
    go_simp
    with_reducible refine hK _ ?_
    clear hK KK
    with_reducible refine class_opk (.pointer (some ⟨w.heap.size, 3, none⟩)) ?_ ?_ ?_
    · first | exact rfl | go_simp
    · intro W hW
      go_simp
    intro KK hK
    go_simp
    with_reducible refine hK _ ?_
    clear hK KK
    with_reducible refine class_opk (.slice A3 n3 c3) ?_ ?_ ?_
    · first | exact rfl | go_simp
    · intro W hW
      obtain ⟨g0, g1, g2, g3, g4, g5⟩ := HE.out.keep (B := W0.heap.size) hlt hW
      go_simp
    intro KK hK
    go_simp
    with_reducible refine hK _ ?_
    clear hK KK
    with_reducible refine class_opk (.bool false) ?_ ?_ ?_
    · first | exact rfl | go_simp
    · intro W hW
      go_simp
      refine class_call hW ?_
      exact HKL.out W (HB.out.trans (hW.mono HB.out.size))
    intro KK hK
    go_simp
    with_reducible refine hK _ ?_
    clear hK KK
    with_reducible refine class_opk (.bool true) ?_ ?_ ?_
    · first | exact rfl | go_simp
    · intro W hW
      go_simp
    intro KK hK
    go_simp
    with_reducible refine hK _ ?_
    clear hK KK
    with_reducible refine class_opk (.bool true) ?_ ?_ ?_
    · first | exact rfl | go_simp
    · intro W hW
      go_simp
    intro KK hK
    go_simp
    with_reducible refine hK _ ?_
    clear hK KK
    with_reducible refine class_opk (.bool true) ?_ ?_ ?_
    · first | exact rfl | go_simp
    · intro W hW
      go_simp
    intro KK hK
    go_simp
    with_reducible refine hK _ ?_
    clear hK KK
    with_reducible refine class_skipk ?_ ?_
    · first | exact rfl | (go_simp; try simp [undef])
    intro KK hK
    go_simp
    with_reducible refine hK _ ?_
    clear hK KK
    with_reducible refine class_skipk ?_ ?_
    · first | exact rfl | (go_simp; try simp [undef])
    intro KK hK
    go_simp
    with_reducible refine hK _ ?_
    clear hK KK
    with_reducible refine class_skipk ?_ ?_
    · first | exact rfl | (go_simp; try simp [undef])
    intro KK hK
    go_simp
    with_reducible refine hK _ ?_
    clear hK KK
    with_reducible refine class_skipk ?_ ?_
    · first | exact rfl | (go_simp; try simp [undef])
    intro KK hK
    go_simp
    with_reducible refine hK _ ?_
    clear hK KK
    with_reducible refine class_opk (.bool true) ?_ ?_ ?_
    · first | exact rfl | go_simp
    · intro W hW
      go_simp
    intro KK hK
    go_simp
    with_reducible refine hK _ ?_
    clear hK KK
    with_reducible refine class_opk (.bool true) ?_ ?_ ?_
    · first | exact rfl | go_simp
    · intro W hW
      go_simp
    intro KK hK
    go_simp
    with_reducible refine hK _ ?_
    clear hK KK
    with_reducible refine class_skipk ?_ ?_
    · first | exact rfl | (go_simp; try simp [undef])
    intro KK hK
    go_simp
    with_reducible refine hK _ ?_
    clear hK KK
    with_reducible refine class_skipk ?_ ?_
    · first | exact rfl | (go_simp; try simp [undef])
    intro KK hK
    go_simp
    with_reducible refine hK _ ?_
    clear hK KK
    with_reducible refine class_skipk ?_ ?_
    · first | exact rfl | (go_simp; try simp [undef])
    intro KK hK
    go_simp
    with_reducible refine hK _ ?_
    clear hK KK
    with_reducible refine class_skipk ?_ ?_
    · first | exact rfl | (go_simp; try simp [undef])
    intro KK hK
    go_simp
    with_reducible refine hK _ ?_
    clear hK KK
    with_reducible refine class_skipk ?_ ?_
    · first | exact rfl | (go_simp; try simp [undef])
    intro KK hK
    go_simp
    with_reducible refine hK _ ?_
    clear hK KK
    with_reducible refine class_skipk ?_ ?_
    · first | exact rfl | (go_simp; try simp [undef])
    intro KK hK
    go_simp
    with_reducible refine hK _ ?_
    clear hK KK
    with_reducible refine class_skipk ?_ ?_
    · first | exact rfl | (go_simp; try simp [undef])
    intro KK hK
    go_simp
    with_reducible refine hK _ ?_
    clear hK KK
    with_reducible refine class_opk (.bool true) ?_ ?_ ?_
    · first | exact rfl | go_simp
    · intro W hW
      go_simp
    intro KK hK
    go_simp
    with_reducible refine hK _ ?_
    clear hK KK
    with_reducible refine class_opk (.bool true) ?_ ?_ ?_
    · first | exact rfl | go_simp
    · intro W hW
      go_simp
    intro KK hK
    go_simp
    with_reducible refine hK _ ?_
    clear hK KK
    with_reducible refine class_skipk ?_ ?_
    · first | exact rfl | (go_simp; try simp [undef])
    intro KK hK
    go_simp
    with_reducible refine hK _ ?_
    clear hK KK
    with_reducible refine class_skipk ?_ ?_
    · first | exact rfl | (go_simp; try simp [undef])
    intro KK hK
    go_simp
    with_reducible refine hK _ ?_
    clear hK KK
    with_reducible refine class_skipk ?_ ?_
    · first | exact rfl | (go_simp; try simp [undef])
    intro KK hK
    go_simp
    with_reducible refine hK _ ?_
    clear hK KK
    with_reducible refine class_skipk ?_ ?_
    · first | exact rfl | (go_simp; try simp [undef])
    intro KK hK
    go_simp
    with_reducible refine hK _ ?_
    clear hK KK
    with_reducible refine class_opk (.bool true) ?_ ?_ ?_
    · first | exact rfl | go_simp
    · intro W hW
      go_simp
    intro KK hK
    go_simp
    with_reducible refine hK _ ?_
    clear hK KK
    go_simp
    intro W hW
    have HBW := Lib.hid (HB.out.trans (hW.mono HB.out.size))
    have HEW := Lib.hid (HE.out.keep (B := W0.heap.size) hlt hW)
    have hlw : w.heap.size < W.heap.size := by have := hW.size; omega
    clear hW
    go_wp2_with fail
    go_ret
    exact ⟨ret_b HV.out.symm, HBW.out⟩
  | true =>
  cases xb with
  | false =>
    have HV : Hid (enB ⟨q, C, L, K, X, z⟩ = false) := Lib.hid (by rw [HEN.out]; simp)
    go_enter Tryz.func5, Tryz.ntmps5
    go_wp2_with fail
    generalize w.alloc _ = W0 at hb he hlt ⊢
    have HB := Lib.hid hb
    have HE := Lib.hid he
    clear hb he
    refine class_region W0.heap.size (by kernel_rfl) (by kernel_rfl) ?_
    with_reducible refine class_opk (.pointer (some ⟨w.heap.size, 1, none⟩)) ?_ ?_ ?_
    · first | exact rfl | go_simp
    · intro W hW
      go_simp
    intro KK hK
    go_simp
    with_reducible refine hK _ ?_
    clear hK KK
    with_reducible refine class_opk (.agg #[.slice A1 n1 c1]) ?_ ?_ ?_
    · first | exact rfl | go_simp
    · intro W hW
      obtain ⟨g0, g1, g2, g3, g4, g5⟩ := HE.out.keep (B := W0.heap.size) hlt hW
      go_simp
    intro KK hK
    go_simp
    with_reducible refine hK _ ?_
    clear hK KK
    with_reducible refine class_opk (.bool true) ?_ ?_ ?_
    · first | exact rfl | go_simp
    · intro W hW
      go_simp
      refine class_call hW ?_
      exact HST.out W (HB.out.trans (hW.mono HB.out.size))
    intro KK hK
    go_simp
    with_reducible refine hK _ ?_
    clear hK KK
    with_reducible refine class_opk (.bool false) ?_ ?_ ?_
    · first | exact rfl | go_simp
    · intro W hW
      go_simp
    intro KK hK
    go_simp
    with_reducible refine hK _ ?_
    clear hK KK
    with_reducible refine class_opk (.bool false) ?_ ?_ ?_
    · first | exact rfl | go_simp
    · intro W hW
      go_simp
    intro KK hK
    go_simp
    with_reducible refine hK _ ?_
    clear hK KK
    with_reducible refine class_opk (.pointer (some ⟨w.heap.size, 3, none⟩)) ?_ ?_ ?_
    · first | exact rfl | go_simp
    · intro W hW
      go_simp
    intro KK hK
    go_simp
    with_reducible refine hK _ ?_
    clear hK KK
    with_reducible refine class_opk (.slice A3 n3 c3) ?_ ?_ ?_
    · first | exact rfl | go_simp
    · intro W hW
      obtain ⟨g0, g1, g2, g3, g4, g5⟩ := HE.out.keep (B := W0.heap.size) hlt hW
      go_simp
    intro KK hK
    go_simp
    with_reducible refine hK _ ?_
    clear hK KK
    with_reducible refine class_opk (.bool true) ?_ ?_ ?_
    · first | exact rfl | go_simp
    · intro W hW
      go_simp
      refine class_call hW ?_
      exact HKL.out W (HB.out.trans (hW.mono HB.out.size))
    intro KK hK
    go_simp
    with_reducible refine hK _ ?_
    clear hK KK
    with_reducible refine class_opk (.bool false) ?_ ?_ ?_
    · first | exact rfl | go_simp
    · intro W hW
      go_simp
    intro KK hK
    go_simp
    with_reducible refine hK _ ?_
    clear hK KK
    with_reducible refine class_opk (.bool false) ?_ ?_ ?_
    · first | exact rfl | go_simp
    · intro W hW
      go_simp
    intro KK hK
    go_simp
    with_reducible refine hK _ ?_
    clear hK KK
    with_reducible refine class_opk (.bool false) ?_ ?_ ?_
    · first | exact rfl | go_simp
    · intro W hW
      go_simp
    intro KK hK
    go_simp
    with_reducible refine hK _ ?_
    clear hK KK
    with_reducible refine class_opk (.pointer (some ⟨w.heap.size, 4, none⟩)) ?_ ?_ ?_
    · first | exact rfl | go_simp
    · intro W hW
      go_simp
    intro KK hK
    go_simp
    with_reducible refine hK _ ?_
    clear hK KK
    with_reducible refine class_opk (.slice A4 n4 c4) ?_ ?_ ?_
    · first | exact rfl | go_simp
    · intro W hW
      obtain ⟨g0, g1, g2, g3, g4, g5⟩ := HE.out.keep (B := W0.heap.size) hlt hW
      go_simp
    intro KK hK
    go_simp
    with_reducible refine hK _ ?_
    clear hK KK
    with_reducible refine class_opk (.bool false) ?_ ?_ ?_
    · first | exact rfl | go_simp
    · intro W hW
      go_simp
      refine class_call hW ?_
      exact HXW.out W (HB.out.trans (hW.mono HB.out.size))
    intro KK hK
    go_simp
    with_reducible refine hK _ ?_
    clear hK KK
    with_reducible refine class_opk (.bool true) ?_ ?_ ?_
    · first | exact rfl | go_simp
    · intro W hW
      go_simp
    intro KK hK
    go_simp
    with_reducible refine hK _ ?_
    clear hK KK
    with_reducible refine class_opk (.bool true) ?_ ?_ ?_
    · first | exact rfl | go_simp
    · intro W hW
      go_simp
    intro KK hK
    go_simp
    with_reducible refine hK _ ?_
    clear hK KK
    with_reducible refine class_opk (.bool true) ?_ ?_ ?_
    · first | exact rfl | go_simp
    · intro W hW
      go_simp
    intro KK hK
    go_simp
    with_reducible refine hK _ ?_
    clear hK KK
    with_reducible refine class_skipk ?_ ?_
    · first | exact rfl | (go_simp; try simp [undef])
    intro KK hK
    go_simp
    with_reducible refine hK _ ?_
    clear hK KK
    with_reducible refine class_skipk ?_ ?_
    · first | exact rfl | (go_simp; try simp [undef])
    intro KK hK
    go_simp
    with_reducible refine hK _ ?_
    clear hK KK
    with_reducible refine class_skipk ?_ ?_
    · first | exact rfl | (go_simp; try simp [undef])
    intro KK hK
    go_simp
    with_reducible refine hK _ ?_
    clear hK KK
    with_reducible refine class_skipk ?_ ?_
    · first | exact rfl | (go_simp; try simp [undef])
    intro KK hK
    go_simp
    with_reducible refine hK _ ?_
    clear hK KK
    with_reducible refine class_skipk ?_ ?_
    · first | exact rfl | (go_simp; try simp [undef])
    intro KK hK
    go_simp
    with_reducible refine hK _ ?_
    clear hK KK
    with_reducible refine class_skipk ?_ ?_
    · first | exact rfl | (go_simp; try simp [undef])
    intro KK hK
    go_simp
    with_reducible refine hK _ ?_
    clear hK KK
    with_reducible refine class_skipk ?_ ?_
    · first | exact rfl | (go_simp; try simp [undef])
    intro KK hK
    go_simp
    with_reducible refine hK _ ?_
    clear hK KK
    with_reducible refine class_opk (.bool true) ?_ ?_ ?_
    · first | exact rfl | go_simp
    · intro W hW
      go_simp
    intro KK hK
    go_simp
    with_reducible refine hK _ ?_
    clear hK KK
    with_reducible refine class_opk (.bool true) ?_ ?_ ?_
    · first | exact rfl | go_simp
    · intro W hW
      go_simp
    intro KK hK
    go_simp
    with_reducible refine hK _ ?_
    clear hK KK
    with_reducible refine class_skipk ?_ ?_
    · first | exact rfl | (go_simp; try simp [undef])
    intro KK hK
    go_simp
    with_reducible refine hK _ ?_
    clear hK KK
    with_reducible refine class_skipk ?_ ?_
    · first | exact rfl | (go_simp; try simp [undef])
    intro KK hK
    go_simp
    with_reducible refine hK _ ?_
    clear hK KK
    with_reducible refine class_skipk ?_ ?_
    · first | exact rfl | (go_simp; try simp [undef])
    intro KK hK
    go_simp
    with_reducible refine hK _ ?_
    clear hK KK
    with_reducible refine class_skipk ?_ ?_
    · first | exact rfl | (go_simp; try simp [undef])
    intro KK hK
    go_simp
    with_reducible refine hK _ ?_
    clear hK KK
    with_reducible refine class_opk (.bool true) ?_ ?_ ?_
    · first | exact rfl | go_simp
    · intro W hW
      go_simp
    intro KK hK
    go_simp
    with_reducible refine hK _ ?_
    clear hK KK
    go_simp
    intro W hW
    have HBW := Lib.hid (HB.out.trans (hW.mono HB.out.size))
    have HEW := Lib.hid (HE.out.keep (B := W0.heap.size) hlt hW)
    have hlw : w.heap.size < W.heap.size := by have := hW.size; omega
    clear hW
    go_wp2_with fail
    go_ret
    exact ⟨ret_b HV.out.symm, HBW.out⟩
  | true =>
  cases ib with
  | false =>
    have HV : Hid (enB ⟨q, C, L, K, X, z⟩ = false) := Lib.hid (by rw [HEN.out]; simp)
    go_enter Tryz.func5, Tryz.ntmps5
    go_wp2_with fail
    generalize w.alloc _ = W0 at hb he hlt ⊢
    have HB := Lib.hid hb
    have HE := Lib.hid he
    clear hb he
    refine class_region W0.heap.size (by kernel_rfl) (by kernel_rfl) ?_
    with_reducible refine class_opk (.pointer (some ⟨w.heap.size, 1, none⟩)) ?_ ?_ ?_
    · first | exact rfl | go_simp
    · intro W hW
      go_simp
    intro KK hK
    go_simp
    with_reducible refine hK _ ?_
    clear hK KK
    with_reducible refine class_opk (.agg #[.slice A1 n1 c1]) ?_ ?_ ?_
    · first | exact rfl | go_simp
    · intro W hW
      obtain ⟨g0, g1, g2, g3, g4, g5⟩ := HE.out.keep (B := W0.heap.size) hlt hW
      go_simp
    intro KK hK
    go_simp
    with_reducible refine hK _ ?_
    clear hK KK
    with_reducible refine class_opk (.bool true) ?_ ?_ ?_
    · first | exact rfl | go_simp
    · intro W hW
      go_simp
      refine class_call hW ?_
      exact HST.out W (HB.out.trans (hW.mono HB.out.size))
    intro KK hK
    go_simp
    with_reducible refine hK _ ?_
    clear hK KK
    with_reducible refine class_opk (.bool false) ?_ ?_ ?_
    · first | exact rfl | go_simp
    · intro W hW
      go_simp
    intro KK hK
    go_simp
    with_reducible refine hK _ ?_
    clear hK KK
    with_reducible refine class_opk (.bool false) ?_ ?_ ?_
    · first | exact rfl | go_simp
    · intro W hW
      go_simp
    intro KK hK
    go_simp
    with_reducible refine hK _ ?_
    clear hK KK
    with_reducible refine class_opk (.pointer (some ⟨w.heap.size, 3, none⟩)) ?_ ?_ ?_
    · first | exact rfl | go_simp
    · intro W hW
      go_simp
    intro KK hK
    go_simp
    with_reducible refine hK _ ?_
    clear hK KK
    with_reducible refine class_opk (.slice A3 n3 c3) ?_ ?_ ?_
    · first | exact rfl | go_simp
    · intro W hW
      obtain ⟨g0, g1, g2, g3, g4, g5⟩ := HE.out.keep (B := W0.heap.size) hlt hW
      go_simp
    intro KK hK
    go_simp
    with_reducible refine hK _ ?_
    clear hK KK
    with_reducible refine class_opk (.bool true) ?_ ?_ ?_
    · first | exact rfl | go_simp
    · intro W hW
      go_simp
      refine class_call hW ?_
      exact HKL.out W (HB.out.trans (hW.mono HB.out.size))
    intro KK hK
    go_simp
    with_reducible refine hK _ ?_
    clear hK KK
    with_reducible refine class_opk (.bool false) ?_ ?_ ?_
    · first | exact rfl | go_simp
    · intro W hW
      go_simp
    intro KK hK
    go_simp
    with_reducible refine hK _ ?_
    clear hK KK
    with_reducible refine class_opk (.bool false) ?_ ?_ ?_
    · first | exact rfl | go_simp
    · intro W hW
      go_simp
    intro KK hK
    go_simp
    with_reducible refine hK _ ?_
    clear hK KK
    with_reducible refine class_opk (.bool false) ?_ ?_ ?_
    · first | exact rfl | go_simp
    · intro W hW
      go_simp
    intro KK hK
    go_simp
    with_reducible refine hK _ ?_
    clear hK KK
    with_reducible refine class_opk (.pointer (some ⟨w.heap.size, 4, none⟩)) ?_ ?_ ?_
    · first | exact rfl | go_simp
    · intro W hW
      go_simp
    intro KK hK
    go_simp
    with_reducible refine hK _ ?_
    clear hK KK
    with_reducible refine class_opk (.slice A4 n4 c4) ?_ ?_ ?_
    · first | exact rfl | go_simp
    · intro W hW
      obtain ⟨g0, g1, g2, g3, g4, g5⟩ := HE.out.keep (B := W0.heap.size) hlt hW
      go_simp
    intro KK hK
    go_simp
    with_reducible refine hK _ ?_
    clear hK KK
    with_reducible refine class_opk (.bool true) ?_ ?_ ?_
    · first | exact rfl | go_simp
    · intro W hW
      go_simp
      refine class_call hW ?_
      exact HXW.out W (HB.out.trans (hW.mono HB.out.size))
    intro KK hK
    go_simp
    with_reducible refine hK _ ?_
    clear hK KK
    with_reducible refine class_opk (.bool false) ?_ ?_ ?_
    · first | exact rfl | go_simp
    · intro W hW
      go_simp
    intro KK hK
    go_simp
    with_reducible refine hK _ ?_
    clear hK KK
    with_reducible refine class_opk (.bool false) ?_ ?_ ?_
    · first | exact rfl | go_simp
    · intro W hW
      go_simp
    intro KK hK
    go_simp
    with_reducible refine hK _ ?_
    clear hK KK
    with_reducible refine class_opk (.bool false) ?_ ?_ ?_
    · first | exact rfl | go_simp
    · intro W hW
      go_simp
    intro KK hK
    go_simp
    with_reducible refine hK _ ?_
    clear hK KK
    with_reducible refine class_opk (.pointer (some ⟨w.heap.size, 5, none⟩)) ?_ ?_ ?_
    · first | exact rfl | go_simp
    · intro W hW
      go_simp
    intro KK hK
    go_simp
    with_reducible refine hK _ ?_
    clear hK KK
    with_reducible refine class_opk (.int .i64 z) ?_ ?_ ?_
    · first | exact rfl | go_simp
    · intro W hW
      obtain ⟨g0, g1, g2, g3, g4, g5⟩ := HE.out.keep (B := W0.heap.size) hlt hW
      go_simp
    intro KK hK
    go_simp
    with_reducible refine hK _ ?_
    clear hK KK
    with_reducible refine class_opk (.pointer (some ⟨w.heap.size, 1, none⟩)) ?_ ?_ ?_
    · first | exact rfl | go_simp
    · intro W hW
      go_simp
    intro KK hK
    go_simp
    with_reducible refine hK _ ?_
    clear hK KK
    with_reducible refine class_opk (.agg #[.slice A1 n1 c1]) ?_ ?_ ?_
    · first | exact rfl | go_simp
    · intro W hW
      obtain ⟨g0, g1, g2, g3, g4, g5⟩ := HE.out.keep (B := W0.heap.size) hlt hW
      go_simp
    intro KK hK
    go_simp
    with_reducible refine hK _ ?_
    clear hK KK
    with_reducible refine class_opk (.int .i64 ls) ?_ ?_ ?_
    · first | exact rfl | go_simp
    · intro W hW
      go_simp
      refine class_call hW ?_
      exact HLS.out W (HB.out.trans (hW.mono HB.out.size))
    intro KK hK
    go_simp
    with_reducible refine hK _ ?_
    clear hK KK
    with_reducible refine class_opk (.bool false) ?_ ?_ ?_
    · first | exact rfl | go_simp
    · intro W hW
      go_simp
      refine class_call hW ?_
      exact HIN.out W
    intro KK hK
    go_simp
    with_reducible refine hK _ ?_
    clear hK KK
    with_reducible refine class_opk (.bool true) ?_ ?_ ?_
    · first | exact rfl | go_simp
    · intro W hW
      go_simp
    intro KK hK
    go_simp
    with_reducible refine hK _ ?_
    clear hK KK
    with_reducible refine class_opk (.bool true) ?_ ?_ ?_
    · first | exact rfl | go_simp
    · intro W hW
      go_simp
    intro KK hK
    go_simp
    with_reducible refine hK _ ?_
    clear hK KK
    with_reducible refine class_opk (.bool true) ?_ ?_ ?_
    · first | exact rfl | go_simp
    · intro W hW
      go_simp
    intro KK hK
    go_simp
    with_reducible refine hK _ ?_
    clear hK KK
    with_reducible refine class_skipk ?_ ?_
    · first | exact rfl | (go_simp; try simp [undef])
    intro KK hK
    go_simp
    with_reducible refine hK _ ?_
    clear hK KK
    with_reducible refine class_skipk ?_ ?_
    · first | exact rfl | (go_simp; try simp [undef])
    intro KK hK
    go_simp
    with_reducible refine hK _ ?_
    clear hK KK
    with_reducible refine class_skipk ?_ ?_
    · first | exact rfl | (go_simp; try simp [undef])
    intro KK hK
    go_simp
    with_reducible refine hK _ ?_
    clear hK KK
    with_reducible refine class_skipk ?_ ?_
    · first | exact rfl | (go_simp; try simp [undef])
    intro KK hK
    go_simp
    with_reducible refine hK _ ?_
    clear hK KK
    with_reducible refine class_opk (.bool true) ?_ ?_ ?_
    · first | exact rfl | go_simp
    · intro W hW
      go_simp
    intro KK hK
    go_simp
    with_reducible refine hK _ ?_
    clear hK KK
    go_simp
    intro W hW
    have HBW := Lib.hid (HB.out.trans (hW.mono HB.out.size))
    have HEW := Lib.hid (HE.out.keep (B := W0.heap.size) hlt hW)
    have hlw : w.heap.size < W.heap.size := by have := hW.size; omega
    clear hW
    go_wp2_with fail
    go_ret
    exact ⟨ret_b HV.out.symm, HBW.out⟩
  | true =>
  by_cases h6 : 6 < n2
  case pos =>
    have t6 : decide ((6 : Int) < (n2 : Int)) = true := decide_eq_true (by omega)
    have HV : Hid (enB ⟨q, C, L, K, X, z⟩ = false) := Lib.hid (by rw [HEN.out, decide_eq_false (show ¬ L.length ≤ 6 by have := HLN.out; omega)]; simp)
    go_enter Tryz.func5, Tryz.ntmps5
    go_wp2_with fail
    generalize w.alloc _ = W0 at hb he hlt ⊢
    have HB := Lib.hid hb
    have HE := Lib.hid he
    clear hb he
    refine class_region W0.heap.size (by kernel_rfl) (by kernel_rfl) ?_
    with_reducible refine class_opk (.pointer (some ⟨w.heap.size, 1, none⟩)) ?_ ?_ ?_
    · first | exact rfl | go_simp
    · intro W hW
      go_simp
    intro KK hK
    go_simp
    with_reducible refine hK _ ?_
    clear hK KK
    with_reducible refine class_opk (.agg #[.slice A1 n1 c1]) ?_ ?_ ?_
    · first | exact rfl | go_simp
    · intro W hW
      obtain ⟨g0, g1, g2, g3, g4, g5⟩ := HE.out.keep (B := W0.heap.size) hlt hW
      go_simp
    intro KK hK
    go_simp
    with_reducible refine hK _ ?_
    clear hK KK
    with_reducible refine class_opk (.bool true) ?_ ?_ ?_
    · first | exact rfl | go_simp
    · intro W hW
      go_simp
      refine class_call hW ?_
      exact HST.out W (HB.out.trans (hW.mono HB.out.size))
    intro KK hK
    go_simp
    with_reducible refine hK _ ?_
    clear hK KK
    with_reducible refine class_opk (.bool false) ?_ ?_ ?_
    · first | exact rfl | go_simp
    · intro W hW
      go_simp
    intro KK hK
    go_simp
    with_reducible refine hK _ ?_
    clear hK KK
    with_reducible refine class_opk (.bool false) ?_ ?_ ?_
    · first | exact rfl | go_simp
    · intro W hW
      go_simp
    intro KK hK
    go_simp
    with_reducible refine hK _ ?_
    clear hK KK
    with_reducible refine class_opk (.pointer (some ⟨w.heap.size, 3, none⟩)) ?_ ?_ ?_
    · first | exact rfl | go_simp
    · intro W hW
      go_simp
    intro KK hK
    go_simp
    with_reducible refine hK _ ?_
    clear hK KK
    with_reducible refine class_opk (.slice A3 n3 c3) ?_ ?_ ?_
    · first | exact rfl | go_simp
    · intro W hW
      obtain ⟨g0, g1, g2, g3, g4, g5⟩ := HE.out.keep (B := W0.heap.size) hlt hW
      go_simp
    intro KK hK
    go_simp
    with_reducible refine hK _ ?_
    clear hK KK
    with_reducible refine class_opk (.bool true) ?_ ?_ ?_
    · first | exact rfl | go_simp
    · intro W hW
      go_simp
      refine class_call hW ?_
      exact HKL.out W (HB.out.trans (hW.mono HB.out.size))
    intro KK hK
    go_simp
    with_reducible refine hK _ ?_
    clear hK KK
    with_reducible refine class_opk (.bool false) ?_ ?_ ?_
    · first | exact rfl | go_simp
    · intro W hW
      go_simp
    intro KK hK
    go_simp
    with_reducible refine hK _ ?_
    clear hK KK
    with_reducible refine class_opk (.bool false) ?_ ?_ ?_
    · first | exact rfl | go_simp
    · intro W hW
      go_simp
    intro KK hK
    go_simp
    with_reducible refine hK _ ?_
    clear hK KK
    with_reducible refine class_opk (.bool false) ?_ ?_ ?_
    · first | exact rfl | go_simp
    · intro W hW
      go_simp
    intro KK hK
    go_simp
    with_reducible refine hK _ ?_
    clear hK KK
    with_reducible refine class_opk (.pointer (some ⟨w.heap.size, 4, none⟩)) ?_ ?_ ?_
    · first | exact rfl | go_simp
    · intro W hW
      go_simp
    intro KK hK
    go_simp
    with_reducible refine hK _ ?_
    clear hK KK
    with_reducible refine class_opk (.slice A4 n4 c4) ?_ ?_ ?_
    · first | exact rfl | go_simp
    · intro W hW
      obtain ⟨g0, g1, g2, g3, g4, g5⟩ := HE.out.keep (B := W0.heap.size) hlt hW
      go_simp
    intro KK hK
    go_simp
    with_reducible refine hK _ ?_
    clear hK KK
    with_reducible refine class_opk (.bool true) ?_ ?_ ?_
    · first | exact rfl | go_simp
    · intro W hW
      go_simp
      refine class_call hW ?_
      exact HXW.out W (HB.out.trans (hW.mono HB.out.size))
    intro KK hK
    go_simp
    with_reducible refine hK _ ?_
    clear hK KK
    with_reducible refine class_opk (.bool false) ?_ ?_ ?_
    · first | exact rfl | go_simp
    · intro W hW
      go_simp
    intro KK hK
    go_simp
    with_reducible refine hK _ ?_
    clear hK KK
    with_reducible refine class_opk (.bool false) ?_ ?_ ?_
    · first | exact rfl | go_simp
    · intro W hW
      go_simp
    intro KK hK
    go_simp
    with_reducible refine hK _ ?_
    clear hK KK
    with_reducible refine class_opk (.bool false) ?_ ?_ ?_
    · first | exact rfl | go_simp
    · intro W hW
      go_simp
    intro KK hK
    go_simp
    with_reducible refine hK _ ?_
    clear hK KK
    with_reducible refine class_opk (.pointer (some ⟨w.heap.size, 5, none⟩)) ?_ ?_ ?_
    · first | exact rfl | go_simp
    · intro W hW
      go_simp
    intro KK hK
    go_simp
    with_reducible refine hK _ ?_
    clear hK KK
    with_reducible refine class_opk (.int .i64 z) ?_ ?_ ?_
    · first | exact rfl | go_simp
    · intro W hW
      obtain ⟨g0, g1, g2, g3, g4, g5⟩ := HE.out.keep (B := W0.heap.size) hlt hW
      go_simp
    intro KK hK
    go_simp
    with_reducible refine hK _ ?_
    clear hK KK
    with_reducible refine class_opk (.pointer (some ⟨w.heap.size, 1, none⟩)) ?_ ?_ ?_
    · first | exact rfl | go_simp
    · intro W hW
      go_simp
    intro KK hK
    go_simp
    with_reducible refine hK _ ?_
    clear hK KK
    with_reducible refine class_opk (.agg #[.slice A1 n1 c1]) ?_ ?_ ?_
    · first | exact rfl | go_simp
    · intro W hW
      obtain ⟨g0, g1, g2, g3, g4, g5⟩ := HE.out.keep (B := W0.heap.size) hlt hW
      go_simp
    intro KK hK
    go_simp
    with_reducible refine hK _ ?_
    clear hK KK
    with_reducible refine class_opk (.int .i64 ls) ?_ ?_ ?_
    · first | exact rfl | go_simp
    · intro W hW
      go_simp
      refine class_call hW ?_
      exact HLS.out W (HB.out.trans (hW.mono HB.out.size))
    intro KK hK
    go_simp
    with_reducible refine hK _ ?_
    clear hK KK
    with_reducible refine class_opk (.bool true) ?_ ?_ ?_
    · first | exact rfl | go_simp
    · intro W hW
      go_simp
      refine class_call hW ?_
      exact HIN.out W
    intro KK hK
    go_simp
    with_reducible refine hK _ ?_
    clear hK KK
    with_reducible refine class_opk (.bool false) ?_ ?_ ?_
    · first | exact rfl | go_simp
    · intro W hW
      go_simp
    intro KK hK
    go_simp
    with_reducible refine hK _ ?_
    clear hK KK
    with_reducible refine class_opk (.bool false) ?_ ?_ ?_
    · first | exact rfl | go_simp
    · intro W hW
      go_simp
    intro KK hK
    go_simp
    with_reducible refine hK _ ?_
    clear hK KK
    with_reducible refine class_opk (.bool false) ?_ ?_ ?_
    · first | exact rfl | go_simp
    · intro W hW
      go_simp
    intro KK hK
    go_simp
    with_reducible refine hK _ ?_
    clear hK KK
    with_reducible refine class_opk (.pointer (some ⟨w.heap.size, 2, none⟩)) ?_ ?_ ?_
    · first | exact rfl | go_simp
    · intro W hW
      go_simp
    intro KK hK
    go_simp
    with_reducible refine hK _ ?_
    clear hK KK
    with_reducible refine class_opk (.slice A2 n2 c2) ?_ ?_ ?_
    · first | exact rfl | go_simp
    · intro W hW
      obtain ⟨g0, g1, g2, g3, g4, g5⟩ := HE.out.keep (B := W0.heap.size) hlt hW
      go_simp
    intro KK hK
    go_simp
    with_reducible refine hK _ ?_
    clear hK KK
    with_reducible refine class_opk (.int .i64 (n2 : Int)) ?_ ?_ ?_
    · first | exact rfl | go_simp
    · intro W hW
      go_simp
    intro KK hK
    go_simp
    with_reducible refine hK _ ?_
    clear hK KK
    with_reducible refine class_opk (.bool true) ?_ ?_ ?_
    · first | exact rfl | go_simp
    · intro W hW
      go_simp
    intro KK hK
    go_simp
    with_reducible refine hK _ ?_
    clear hK KK
    with_reducible refine class_opk (.bool true) ?_ ?_ ?_
    · first | exact rfl | go_simp
    · intro W hW
      go_simp
    intro KK hK
    go_simp
    with_reducible refine hK _ ?_
    clear hK KK
    go_simp
    intro W hW
    have HBW := Lib.hid (HB.out.trans (hW.mono HB.out.size))
    have HEW := Lib.hid (HE.out.keep (B := W0.heap.size) hlt hW)
    have hlw : w.heap.size < W.heap.size := by have := hW.size; omega
    clear hW
    go_wp2_with fail
    go_ret
    exact ⟨ret_b HV.out.symm, HBW.out⟩
  have t6 : decide ((6 : Int) < (n2 : Int)) = false := decide_eq_false (by omega)
  have HEN2 : Hid (enB ⟨q, C, L, K, X, z⟩ = (sqB (okT C z) folT L && K.all (fun m => acT L m.b) && X.all (fun m => acT L m.a && acT L m.b))) := Lib.hid (by rw [HEN.out, decide_eq_true (show L.length ≤ 6 by have := HLN.out; omega)]; simp)
  go_enter Tryz.func5, Tryz.ntmps5
  go_wp2_with fail
  generalize w.alloc _ = W0 at hb he hlt ⊢
  have HB := Lib.hid hb
  have HE := Lib.hid he
  clear hb he
  refine class_region W0.heap.size (by kernel_rfl) (by kernel_rfl) ?_
  with_reducible refine class_opk (.pointer (some ⟨w.heap.size, 1, none⟩)) ?_ ?_ ?_
  · first | exact rfl | go_simp
  · intro W hW
    go_simp
  intro KK hK
  go_simp
  with_reducible refine hK _ ?_
  clear hK KK
  with_reducible refine class_opk (.agg #[.slice A1 n1 c1]) ?_ ?_ ?_
  · first | exact rfl | go_simp
  · intro W hW
    obtain ⟨g0, g1, g2, g3, g4, g5⟩ := HE.out.keep (B := W0.heap.size) hlt hW
    go_simp
  intro KK hK
  go_simp
  with_reducible refine hK _ ?_
  clear hK KK
  with_reducible refine class_opk (.bool true) ?_ ?_ ?_
  · first | exact rfl | go_simp
  · intro W hW
    go_simp
    refine class_call hW ?_
    exact HST.out W (HB.out.trans (hW.mono HB.out.size))
  intro KK hK
  go_simp
  with_reducible refine hK _ ?_
  clear hK KK
  with_reducible refine class_opk (.bool false) ?_ ?_ ?_
  · first | exact rfl | go_simp
  · intro W hW
    go_simp
  intro KK hK
  go_simp
  with_reducible refine hK _ ?_
  clear hK KK
  with_reducible refine class_opk (.bool false) ?_ ?_ ?_
  · first | exact rfl | go_simp
  · intro W hW
    go_simp
  intro KK hK
  go_simp
  with_reducible refine hK _ ?_
  clear hK KK
  with_reducible refine class_opk (.pointer (some ⟨w.heap.size, 3, none⟩)) ?_ ?_ ?_
  · first | exact rfl | go_simp
  · intro W hW
    go_simp
  intro KK hK
  go_simp
  with_reducible refine hK _ ?_
  clear hK KK
  with_reducible refine class_opk (.slice A3 n3 c3) ?_ ?_ ?_
  · first | exact rfl | go_simp
  · intro W hW
    obtain ⟨g0, g1, g2, g3, g4, g5⟩ := HE.out.keep (B := W0.heap.size) hlt hW
    go_simp
  intro KK hK
  go_simp
  with_reducible refine hK _ ?_
  clear hK KK
  with_reducible refine class_opk (.bool true) ?_ ?_ ?_
  · first | exact rfl | go_simp
  · intro W hW
    go_simp
    refine class_call hW ?_
    exact HKL.out W (HB.out.trans (hW.mono HB.out.size))
  intro KK hK
  go_simp
  with_reducible refine hK _ ?_
  clear hK KK
  with_reducible refine class_opk (.bool false) ?_ ?_ ?_
  · first | exact rfl | go_simp
  · intro W hW
    go_simp
  intro KK hK
  go_simp
  with_reducible refine hK _ ?_
  clear hK KK
  with_reducible refine class_opk (.bool false) ?_ ?_ ?_
  · first | exact rfl | go_simp
  · intro W hW
    go_simp
  intro KK hK
  go_simp
  with_reducible refine hK _ ?_
  clear hK KK
  with_reducible refine class_opk (.bool false) ?_ ?_ ?_
  · first | exact rfl | go_simp
  · intro W hW
    go_simp
  intro KK hK
  go_simp
  with_reducible refine hK _ ?_
  clear hK KK
  with_reducible refine class_opk (.pointer (some ⟨w.heap.size, 4, none⟩)) ?_ ?_ ?_
  · first | exact rfl | go_simp
  · intro W hW
    go_simp
  intro KK hK
  go_simp
  with_reducible refine hK _ ?_
  clear hK KK
  with_reducible refine class_opk (.slice A4 n4 c4) ?_ ?_ ?_
  · first | exact rfl | go_simp
  · intro W hW
    obtain ⟨g0, g1, g2, g3, g4, g5⟩ := HE.out.keep (B := W0.heap.size) hlt hW
    go_simp
  intro KK hK
  go_simp
  with_reducible refine hK _ ?_
  clear hK KK
  with_reducible refine class_opk (.bool true) ?_ ?_ ?_
  · first | exact rfl | go_simp
  · intro W hW
    go_simp
    refine class_call hW ?_
    exact HXW.out W (HB.out.trans (hW.mono HB.out.size))
  intro KK hK
  go_simp
  with_reducible refine hK _ ?_
  clear hK KK
  with_reducible refine class_opk (.bool false) ?_ ?_ ?_
  · first | exact rfl | go_simp
  · intro W hW
    go_simp
  intro KK hK
  go_simp
  with_reducible refine hK _ ?_
  clear hK KK
  with_reducible refine class_opk (.bool false) ?_ ?_ ?_
  · first | exact rfl | go_simp
  · intro W hW
    go_simp
  intro KK hK
  go_simp
  with_reducible refine hK _ ?_
  clear hK KK
  with_reducible refine class_opk (.bool false) ?_ ?_ ?_
  · first | exact rfl | go_simp
  · intro W hW
    go_simp
  intro KK hK
  go_simp
  with_reducible refine hK _ ?_
  clear hK KK
  with_reducible refine class_opk (.pointer (some ⟨w.heap.size, 5, none⟩)) ?_ ?_ ?_
  · first | exact rfl | go_simp
  · intro W hW
    go_simp
  intro KK hK
  go_simp
  with_reducible refine hK _ ?_
  clear hK KK
  with_reducible refine class_opk (.int .i64 z) ?_ ?_ ?_
  · first | exact rfl | go_simp
  · intro W hW
    obtain ⟨g0, g1, g2, g3, g4, g5⟩ := HE.out.keep (B := W0.heap.size) hlt hW
    go_simp
  intro KK hK
  go_simp
  with_reducible refine hK _ ?_
  clear hK KK
  with_reducible refine class_opk (.pointer (some ⟨w.heap.size, 1, none⟩)) ?_ ?_ ?_
  · first | exact rfl | go_simp
  · intro W hW
    go_simp
  intro KK hK
  go_simp
  with_reducible refine hK _ ?_
  clear hK KK
  with_reducible refine class_opk (.agg #[.slice A1 n1 c1]) ?_ ?_ ?_
  · first | exact rfl | go_simp
  · intro W hW
    obtain ⟨g0, g1, g2, g3, g4, g5⟩ := HE.out.keep (B := W0.heap.size) hlt hW
    go_simp
  intro KK hK
  go_simp
  with_reducible refine hK _ ?_
  clear hK KK
  with_reducible refine class_opk (.int .i64 ls) ?_ ?_ ?_
  · first | exact rfl | go_simp
  · intro W hW
    go_simp
    refine class_call hW ?_
    exact HLS.out W (HB.out.trans (hW.mono HB.out.size))
  intro KK hK
  go_simp
  with_reducible refine hK _ ?_
  clear hK KK
  with_reducible refine class_opk (.bool true) ?_ ?_ ?_
  · first | exact rfl | go_simp
  · intro W hW
    go_simp
    refine class_call hW ?_
    exact HIN.out W
  intro KK hK
  go_simp
  with_reducible refine hK _ ?_
  clear hK KK
  with_reducible refine class_opk (.bool false) ?_ ?_ ?_
  · first | exact rfl | go_simp
  · intro W hW
    go_simp
  intro KK hK
  go_simp
  with_reducible refine hK _ ?_
  clear hK KK
  with_reducible refine class_opk (.bool false) ?_ ?_ ?_
  · first | exact rfl | go_simp
  · intro W hW
    go_simp
  intro KK hK
  go_simp
  with_reducible refine hK _ ?_
  clear hK KK
  with_reducible refine class_opk (.bool false) ?_ ?_ ?_
  · first | exact rfl | go_simp
  · intro W hW
    go_simp
  intro KK hK
  go_simp
  with_reducible refine hK _ ?_
  clear hK KK
  with_reducible refine class_opk (.pointer (some ⟨w.heap.size, 2, none⟩)) ?_ ?_ ?_
  · first | exact rfl | go_simp
  · intro W hW
    go_simp
  intro KK hK
  go_simp
  with_reducible refine hK _ ?_
  clear hK KK
  with_reducible refine class_opk (.slice A2 n2 c2) ?_ ?_ ?_
  · first | exact rfl | go_simp
  · intro W hW
    obtain ⟨g0, g1, g2, g3, g4, g5⟩ := HE.out.keep (B := W0.heap.size) hlt hW
    go_simp
  intro KK hK
  go_simp
  with_reducible refine hK _ ?_
  clear hK KK
  with_reducible refine class_opk (.int .i64 (n2 : Int)) ?_ ?_ ?_
  · first | exact rfl | go_simp
  · intro W hW
    go_simp
  intro KK hK
  go_simp
  with_reducible refine hK _ ?_
  clear hK KK
  with_reducible refine class_opk (.bool false) ?_ ?_ ?_
  · first | exact rfl | go_simp
  · intro W hW
    go_simp
  intro KK hK
  go_simp
  with_reducible refine hK _ ?_
  clear hK KK
  with_reducible refine class_opk (.bool false) ?_ ?_ ?_
  · first | exact rfl | go_simp
  · intro W hW
    go_simp
  intro KK hK
  go_simp
  with_reducible refine hK _ ?_
  clear hK KK
  go_simp
  intro W hW
  have HBW := Lib.hid (HB.out.trans (hW.mono HB.out.size))
  have HEW := Lib.hid (HE.out.keep (B := W0.heap.size) hlt hW)
  have hlw : w.heap.size < W.heap.size := by have := hW.size; omega
  clear hW
  have hlt := hlw
  obtain ⟨g0, g1, g2, g3, g4, g5⟩ := HEW.out
  go_wp2_with fail
  clear g0 g1 g2 g3 g4 g5
  go_loopw [3, 4] (fun i _ wr => ∃ k : Nat, k ≤ n2 ∧ i = .int .i64 k ∧ Pri (okT C z) folT L k ∧ Below W.heap.size W wr) (fun i _ _ => n2 - (intOf i).toNat)
  case atStart => exact ⟨0, by omega, rfl, pri_zero _ _ _, Below.refl _ _⟩
  case round =>
    obtain ⟨k, hk, rfl, hP, hb⟩ := hrel
    have HP := Lib.hid hP
    have HBR := Lib.hid (HBW.out.trans (hb.mono HBW.out.size))
    have HER := Lib.hid (HEW.out.keep (B := W.heap.size) hlw hb)
    have hsz := hb.size
    clear hP
    obtain ⟨g0, g1, g2, g3, g4, g5⟩ := HER.out
    by_cases hk2 : k < n2
    · have HBK := Lib.hid hb
      have HT := Lib.hid (HR.out.t.below (Go.Proofs.YtjnlbhmddhpmaaaGreat.el2.below_le HBR.out hB))
      obtain ⟨b, o, t, P1, p1, pc, P2, p2, qc, rfl, hbB, hx, ha, hp1, hp2, hv, hu⟩ := HT.out.at_ hk2
      have HX := Lib.hid hx
      obtain ⟨a0, a1, a2, a3, a4, a5, a6, a7, a8⟩ := ha
      have hn := new1 wr (.cells #[.int .i64 t.x.i, .int .i64 t.x.s, .int .i64 t.x.t, .int .i64 t.x.b, .int .i64 t.x.l, .int .i64 t.x.h, .int .i64 t.x.c, .slice P1 p1 pc, .slice P2 p2 qc] 55)
      have hlr : w.heap.size < wr.heap.size := by omega
      have hbx := TB.new wr t.x P1 p1 pc P2 p2 qc 55
      have hzn : (wr.alloc (.cells #[.int .i64 t.x.i, .int .i64 t.x.s, .int .i64 t.x.t, .int .i64 t.x.b, .int .i64 t.x.l, .int .i64 t.x.h, .int .i64 t.x.c, .slice P1 p1 pc, .slice P2 p2 qc] 55)).heap.size = wr.heap.size + 1 := by simp
      have hbs : b < wr.heap.size := by have := HBR.out.size; omega
      have tk : decide ((k : Int) < (n2 : Int)) = true := decide_eq_true (by omega)
      have HVV := Lib.hid hv
      have HUU := Lib.hid hu
      have hprev : 0 < k → ∃ (u : Tr) (v1 v2 : Value), L[k - 1]? = some u ∧ T9 wr b (o + (k - 1) * 9) u.x v1 v2 := fun h0 => by
            obtain ⟨b2, o2, u, Q1, q1, rc, Q2, q2, sc, he2, _, hy, hd, _⟩ := HT.out.at_ (k := k - 1) (by omega)
            injection he2 with he2
            injection he2 with ea eb
            subst ea eb
            exact ⟨u, _, _, hy, hd⟩
      have HPV := Lib.hid hprev
      clear hx hv hu hprev hb
      go_wp2_with fail
      generalize hW2 : wr.alloc (.cells #[.int .i64 t.x.i, .int .i64 t.x.s, .int .i64 t.x.t, .int .i64 t.x.b, .int .i64 t.x.l, .int .i64 t.x.h, .int .i64 t.x.c, .slice P1 p1 pc, .slice P2 p2 qc] 55) = WQ at hn hbx hzn ⊢
      clear hW2
      have HN := Lib.hid hn
      have HQB := Lib.hid (HBR.out.trans (hn.mono HBR.out.size))
      have HQE := Lib.hid (HER.out.keep (B := wr.heap.size) hlr hn)
      have HQT := Lib.hid hbx
      have HQW : Hid (Below W.heap.size W WQ) := Lib.hid (HBK.out.trans (hn.mono hsz))
      have hq1 : w.heap.size < WQ.heap.size := by omega
      have hq2 : wr.heap.size < WQ.heap.size := by omega
      clear hzn
      clear a0 a1 a2 a3 a4 a5 a6 a7 a8 g0 g1 g2 g3 g4 g5 hn hbx
      have HVQ : Hid (Vs WQ B P1 p1 t.R) := Lib.hid (HVV.out.below (Go.Proofs.YtjnlbhmddhpmaaaGreat.el2.below_le HN.out (Nat.le_trans hB HBR.out.size)))
      have HUQ : Hid (Vs WQ B P2 p2 t.S) := Lib.hid (HUU.out.below (Go.Proofs.YtjnlbhmddhpmaaaGreat.el2.below_le HN.out (Nat.le_trans hB HBR.out.size)))
      have HTXC : Hid (∀ V : World, Below WQ.heap.size WQ V → Calls Tryz.prog 18 #[.agg #[.int .i64 t.x.i, .int .i64 t.x.s, .int .i64 t.x.t, .int .i64 t.x.b, .int .i64 t.x.l, .int .i64 t.x.h, .int .i64 t.x.c, .slice P1 p1 pc, .slice P2 p2 qc]] V fun e w' => e = .returned (.bool (txB t.x t.R t.S)) ∧ Below V.heap.size V w') := Lib.hid fun V hV => Go.Proofs.YtjnlbhmddhpmaaaGreat.tvs.spec_tx t.x (by omega) (by omega) (HVQ.out.below (Go.Proofs.YtjnlbhmddhpmaaaGreat.el2.below_le hV (Nat.le_trans hB HQB.out.size))) (HUQ.out.below (Go.Proofs.YtjnlbhmddhpmaaaGreat.el2.below_le hV (Nat.le_trans hB HQB.out.size))) (Nat.le_trans (Nat.le_trans hB HQB.out.size) hV.size)
      have HRXC : Hid (∀ V : World, Below WQ.heap.size WQ V → Calls Tryz.prog 19 #[.agg #[.slice A1 n1 c1], .agg #[.int .i64 t.x.i, .int .i64 t.x.s, .int .i64 t.x.t, .int .i64 t.x.b, .int .i64 t.x.l, .int .i64 t.x.h, .int .i64 t.x.c, .slice P1 p1 pc, .slice P2 p2 qc]] V fun e w' => e = .returned (.bool (rexB C t.x t.R t.S)) ∧ Below V.heap.size V w') := Lib.hid fun V hV => Go.Proofs.YtjnlbhmddhpmaaaGreat.rx.spec_rex t.x (by omega) (by omega) (by omega) (HVQ.out.below (Go.Proofs.YtjnlbhmddhpmaaaGreat.el2.below_le hV (Nat.le_trans hB HQB.out.size))) (HUQ.out.below (Go.Proofs.YtjnlbhmddhpmaaaGreat.el2.below_le hV (Nat.le_trans hB HQB.out.size))) (HR.out.s.below (Go.Proofs.YtjnlbhmddhpmaaaGreat.sl.below_le (HQB.out.trans (hV.mono HQB.out.size)) hB)) (Nat.le_trans (Nat.le_trans hB HQB.out.size) hV.size)
      rcases htx : txB t.x t.R t.S with _ | _
      · have HTX := Lib.hid htx
        have HV : Hid (enB ⟨q, C, L, K, X, z⟩ = false) := Lib.hid (by rw [HEN2.out, show sqB (okT C z) folT L = false from sq_bad HX.out (by unfold okT; rw [htx]; simp)]; rfl)
        clear htx
        refine class_region WQ.heap.size (by kernel_rfl) (by kernel_rfl) ?_
        with_reducible refine class_opk (.agg #[.int .i64 t.x.i, .int .i64 t.x.s, .int .i64 t.x.t, .int .i64 t.x.b, .int .i64 t.x.l, .int .i64 t.x.h, .int .i64 t.x.c, .slice P1 p1 pc, .slice P2 p2 qc]) ?_ ?_ ?_
        · first | exact rfl | go_simp
        · intro W hW
          obtain ⟨g0, g1, g2, g3, g4, g5, g6, g7, g8⟩ := HQT.out.keep (B := WQ.heap.size) hq2 hW
          go_simp
        intro KK hK
        go_simp
        with_reducible refine hK _ ?_
        clear hK KK
        with_reducible refine class_opk (.bool false) ?_ ?_ ?_
        · first | exact rfl | go_simp
        · intro W hW
          go_simp
          refine class_call hW ?_
          have hc := HTXC.out W hW
          rw [HTX.out] at hc
          exact hc
        intro KK hK
        go_simp
        with_reducible refine hK _ ?_
        clear hK KK
        with_reducible refine class_opk (.bool true) ?_ ?_ ?_
        · first | exact rfl | go_simp
        · intro W hW
          go_simp
        intro KK hK
        go_simp
        with_reducible refine hK _ ?_
        clear hK KK
        with_reducible refine class_opk (.bool true) ?_ ?_ ?_
        · first | exact rfl | go_simp
        · intro W hW
          go_simp
        intro KK hK
        go_simp
        with_reducible refine hK _ ?_
        clear hK KK
        with_reducible refine class_skipk ?_ ?_
        · first | exact rfl | (go_simp; try simp [undef])
        intro KK hK
        go_simp
        with_reducible refine hK _ ?_
        clear hK KK
        with_reducible refine class_skipk ?_ ?_
        · first | exact rfl | (go_simp; try simp [undef])
        intro KK hK
        go_simp
        with_reducible refine hK _ ?_
        clear hK KK
        with_reducible refine class_skipk ?_ ?_
        · first | exact rfl | (go_simp; try simp [undef])
        intro KK hK
        go_simp
        with_reducible refine hK _ ?_
        clear hK KK
        with_reducible refine class_skipk ?_ ?_
        · first | exact rfl | (go_simp; try simp [undef])
        intro KK hK
        go_simp
        with_reducible refine hK _ ?_
        clear hK KK
        with_reducible refine class_skipk ?_ ?_
        · first | exact rfl | (go_simp; try simp [undef])
        intro KK hK
        go_simp
        with_reducible refine hK _ ?_
        clear hK KK
        with_reducible refine class_skipk ?_ ?_
        · first | exact rfl | (go_simp; try simp [undef])
        intro KK hK
        go_simp
        with_reducible refine hK _ ?_
        clear hK KK
        with_reducible refine class_skipk ?_ ?_
        · first | exact rfl | (go_simp; try simp [undef])
        intro KK hK
        go_simp
        with_reducible refine hK _ ?_
        clear hK KK
        with_reducible refine class_skipk ?_ ?_
        · first | exact rfl | (go_simp; try simp [undef])
        intro KK hK
        go_simp
        with_reducible refine hK _ ?_
        clear hK KK
        with_reducible refine class_skipk ?_ ?_
        · first | exact rfl | (go_simp; try simp [undef])
        intro KK hK
        go_simp
        with_reducible refine hK _ ?_
        clear hK KK
        with_reducible refine class_skipk ?_ ?_
        · first | exact rfl | (go_simp; try simp [undef])
        intro KK hK
        go_simp
        with_reducible refine hK _ ?_
        clear hK KK
        with_reducible refine class_skipk ?_ ?_
        · first | exact rfl | (go_simp; try simp [undef])
        intro KK hK
        go_simp
        with_reducible refine hK _ ?_
        clear hK KK
        with_reducible refine class_skipk ?_ ?_
        · first | exact rfl | (go_simp; try simp [undef])
        intro KK hK
        go_simp
        with_reducible refine hK _ ?_
        clear hK KK
        with_reducible refine class_skipk ?_ ?_
        · first | exact rfl | (go_simp; try simp [undef])
        intro KK hK
        go_simp
        with_reducible refine hK _ ?_
        clear hK KK
        with_reducible refine class_skipk ?_ ?_
        · first | exact rfl | (go_simp; try simp [undef])
        intro KK hK
        go_simp
        with_reducible refine hK _ ?_
        clear hK KK
        with_reducible refine class_opk (.bool true) ?_ ?_ ?_
        · first | exact rfl | go_simp
        · intro W hW
          go_simp
        intro KK hK
        go_simp
        with_reducible refine hK _ ?_
        clear hK KK
        with_reducible refine class_opk (.bool true) ?_ ?_ ?_
        · first | exact rfl | go_simp
        · intro W hW
          go_simp
        intro KK hK
        go_simp
        with_reducible refine hK _ ?_
        clear hK KK
        with_reducible refine class_skipk ?_ ?_
        · first | exact rfl | (go_simp; try simp [undef])
        intro KK hK
        go_simp
        with_reducible refine hK _ ?_
        clear hK KK
        with_reducible refine class_skipk ?_ ?_
        · first | exact rfl | (go_simp; try simp [undef])
        intro KK hK
        go_simp
        with_reducible refine hK _ ?_
        clear hK KK
        with_reducible refine class_skipk ?_ ?_
        · first | exact rfl | (go_simp; try simp [undef])
        intro KK hK
        go_simp
        with_reducible refine hK _ ?_
        clear hK KK
        with_reducible refine class_skipk ?_ ?_
        · first | exact rfl | (go_simp; try simp [undef])
        intro KK hK
        go_simp
        with_reducible refine hK _ ?_
        clear hK KK
        with_reducible refine class_skipk ?_ ?_
        · first | exact rfl | (go_simp; try simp [undef])
        intro KK hK
        go_simp
        with_reducible refine hK _ ?_
        clear hK KK
        with_reducible refine class_opk (.bool true) ?_ ?_ ?_
        · first | exact rfl | go_simp
        · intro W hW
          go_simp
        intro KK hK
        go_simp
        with_reducible refine hK _ ?_
        clear hK KK
        with_reducible refine class_opk (.bool true) ?_ ?_ ?_
        · first | exact rfl | go_simp
        · intro W hW
          go_simp
        intro KK hK
        go_simp
        with_reducible refine hK _ ?_
        clear hK KK
        with_reducible refine class_skipk ?_ ?_
        · first | exact rfl | (go_simp; try simp [undef])
        intro KK hK
        go_simp
        with_reducible refine hK _ ?_
        clear hK KK
        with_reducible refine class_skipk ?_ ?_
        · first | exact rfl | (go_simp; try simp [undef])
        intro KK hK
        go_simp
        with_reducible refine hK _ ?_
        clear hK KK
        with_reducible refine class_skipk ?_ ?_
        · first | exact rfl | (go_simp; try simp [undef])
        intro KK hK
        go_simp
        with_reducible refine hK _ ?_
        clear hK KK
        with_reducible refine class_skipk ?_ ?_
        · first | exact rfl | (go_simp; try simp [undef])
        intro KK hK
        go_simp
        with_reducible refine hK _ ?_
        clear hK KK
        with_reducible refine class_skipk ?_ ?_
        · first | exact rfl | (go_simp; try simp [undef])
        intro KK hK
        go_simp
        with_reducible refine hK _ ?_
        clear hK KK
        with_reducible refine class_opk (.bool true) ?_ ?_ ?_
        · first | exact rfl | go_simp
        · intro W hW
          go_simp
        intro KK hK
        go_simp
        with_reducible refine hK _ ?_
        clear hK KK
        with_reducible refine class_opk (.bool true) ?_ ?_ ?_
        · first | exact rfl | go_simp
        · intro W hW
          go_simp
        intro KK hK
        go_simp
        with_reducible refine hK _ ?_
        clear hK KK
        with_reducible refine class_skipk ?_ ?_
        · first | exact rfl | (go_simp; try simp [undef])
        intro KK hK
        go_simp
        with_reducible refine hK _ ?_
        clear hK KK
        with_reducible refine class_skipk ?_ ?_
        · first | exact rfl | (go_simp; try simp [undef])
        intro KK hK
        go_simp
        with_reducible refine hK _ ?_
        clear hK KK
        with_reducible refine class_skipk ?_ ?_
        · first | exact rfl | (go_simp; try simp [undef])
        intro KK hK
        go_simp
        with_reducible refine hK _ ?_
        clear hK KK
        with_reducible refine class_skipk ?_ ?_
        · first | exact rfl | (go_simp; try simp [undef])
        intro KK hK
        go_simp
        with_reducible refine hK _ ?_
        clear hK KK
        with_reducible refine class_skipk ?_ ?_
        · first | exact rfl | (go_simp; try simp [undef])
        intro KK hK
        go_simp
        with_reducible refine hK _ ?_
        clear hK KK
        with_reducible refine class_skipk ?_ ?_
        · first | exact rfl | (go_simp; try simp [undef])
        intro KK hK
        go_simp
        with_reducible refine hK _ ?_
        clear hK KK
        with_reducible refine class_skipk ?_ ?_
        · first | exact rfl | (go_simp; try simp [undef])
        intro KK hK
        go_simp
        with_reducible refine hK _ ?_
        clear hK KK
        with_reducible refine class_skipk ?_ ?_
        · first | exact rfl | (go_simp; try simp [undef])
        intro KK hK
        go_simp
        with_reducible refine hK _ ?_
        clear hK KK
        with_reducible refine class_skipk ?_ ?_
        · first | exact rfl | (go_simp; try simp [undef])
        intro KK hK
        go_simp
        with_reducible refine hK _ ?_
        clear hK KK
        with_reducible refine class_skipk ?_ ?_
        · first | exact rfl | (go_simp; try simp [undef])
        intro KK hK
        go_simp
        with_reducible refine hK _ ?_
        clear hK KK
        with_reducible refine class_opk (.bool true) ?_ ?_ ?_
        · first | exact rfl | go_simp
        · intro W hW
          go_simp
        intro KK hK
        go_simp
        with_reducible refine hK _ ?_
        clear hK KK
        go_simp
        intro V hV
        have HVB := Lib.hid (HQB.out.trans (hV.mono HQB.out.size))
        have HVW := Lib.hid (HQW.out.trans (hV.mono (by have := HQW.out.size; omega)))
        clear hV
        go_wp2_with fail
        go_ret
        exact ⟨ret_b HV.out.symm, HVB.out⟩
      have HTX := Lib.hid htx
      clear htx
      by_cases h0 : 0 < k
      · obtain ⟨u, v1, v2, hy, hd⟩ := HPV.out h0
        have HY := Lib.hid hy
        have HU9 : Hid (T9 WQ b (o + (k - 1) * 9) u.x v1 v2) := Lib.hid (hd.of_block (HN.out.block b hbs))
        have hbq : b < WQ.heap.size := by omega
        clear hy hd
        have s1 : IntKind.i64.wrap ((k : Int) - 1) = (k : Int) - 1 := IntWalk.i64_in _ (by omega)
        have s2 : (0 : Int) ≤ (k : Int) - 1 := by omega
        have s3 : ((k : Int) - 1).toNat = k - 1 := by omega
        have s4 : (k : Int) - 1 < (n2 : Int) := by omega
        have s5 : (1 : Int) ≤ (k : Int) := by omega
        have tk0 : decide ((0 : Int) < (k : Int)) = true := decide_eq_true (by omega)
        rcases hge : decide (t.x.i ≤ u.x.i) with _ | _
        case true =>
          have HV : Hid (enB ⟨q, C, L, K, X, z⟩ = false) := Lib.hid (by rw [HEN2.out, show sqB (okT C z) folT L = false from sq_off h0 HY.out HX.out (decide_eq_false (by have := of_decide_eq_true hge; omega))]; rfl)
          refine class_region WQ.heap.size (by kernel_rfl) (by kernel_rfl) ?_
          with_reducible refine class_opk (.agg #[.int .i64 t.x.i, .int .i64 t.x.s, .int .i64 t.x.t, .int .i64 t.x.b, .int .i64 t.x.l, .int .i64 t.x.h, .int .i64 t.x.c, .slice P1 p1 pc, .slice P2 p2 qc]) ?_ ?_ ?_
          · first | exact rfl | go_simp
          · intro W hW
            obtain ⟨g0, g1, g2, g3, g4, g5, g6, g7, g8⟩ := HQT.out.keep (B := WQ.heap.size) hq2 hW
            go_simp
          intro KK hK
          go_simp
          with_reducible refine hK _ ?_
          clear hK KK
          with_reducible refine class_opk (.bool true) ?_ ?_ ?_
          · first | exact rfl | go_simp
          · intro W hW
            go_simp
            refine class_call hW ?_
            have hc := HTXC.out W hW
            rw [HTX.out] at hc
            exact hc
          intro KK hK
          go_simp
          with_reducible refine hK _ ?_
          clear hK KK
          with_reducible refine class_opk (.bool false) ?_ ?_ ?_
          · first | exact rfl | go_simp
          · intro W hW
            go_simp
          intro KK hK
          go_simp
          with_reducible refine hK _ ?_
          clear hK KK
          with_reducible refine class_opk (.bool false) ?_ ?_ ?_
          · first | exact rfl | go_simp
          · intro W hW
            go_simp
          intro KK hK
          go_simp
          with_reducible refine hK _ ?_
          clear hK KK
          with_reducible refine class_opk (.int .i64 (k : Int)) ?_ ?_ ?_
          · first | exact rfl | go_simp
          · intro W hW
            go_simp
          intro KK hK
          go_simp
          with_reducible refine hK _ ?_
          clear hK KK
          with_reducible refine class_opk (.bool true) ?_ ?_ ?_
          · first | exact rfl | go_simp
          · intro W hW
            go_simp
          intro KK hK
          go_simp
          with_reducible refine hK _ ?_
          clear hK KK
          with_reducible refine class_opk (.bool true) ?_ ?_ ?_
          · first | exact rfl | go_simp
          · intro W hW
            go_simp
          intro KK hK
          go_simp
          with_reducible refine hK _ ?_
          clear hK KK
          with_reducible refine class_opk (.pointer (some ⟨w.heap.size, 2, none⟩)) ?_ ?_ ?_
          · first | exact rfl | go_simp
          · intro W hW
            go_simp
          intro KK hK
          go_simp
          with_reducible refine hK _ ?_
          clear hK KK
          with_reducible refine class_opk (.slice (some ⟨b, o, none⟩) n2 c2) ?_ ?_ ?_
          · first | exact rfl | go_simp
          · intro W hW
            obtain ⟨g0, g1, g2, g3, g4, g5⟩ := HQE.out.keep (B := WQ.heap.size) hq1 hW
            go_simp
          intro KK hK
          go_simp
          with_reducible refine hK _ ?_
          clear hK KK
          with_reducible refine class_opk (.int .i64 (k : Int)) ?_ ?_ ?_
          · first | exact rfl | go_simp
          · intro W hW
            go_simp
          intro KK hK
          go_simp
          with_reducible refine hK _ ?_
          clear hK KK
          with_reducible refine class_opk (.int .i64 ((k : Int) - 1)) ?_ ?_ ?_
          · first | exact rfl | go_simp
          · intro W hW
            go_simp
          intro KK hK
          go_simp
          with_reducible refine hK _ ?_
          clear hK KK
          with_reducible refine class_opk (.pointer (some ⟨b, o + (k - 1) * 9, none⟩)) ?_ ?_ ?_
          · first | exact rfl | go_simp
          · intro W hW
            go_simp
          intro KK hK
          go_simp
          with_reducible refine hK _ ?_
          clear hK KK
          with_reducible refine class_opk (.pointer (some ⟨b, o + (k - 1) * 9, none⟩)) ?_ ?_ ?_
          · first | exact rfl | go_simp
          · intro W hW
            go_simp
          intro KK hK
          go_simp
          with_reducible refine hK _ ?_
          clear hK KK
          with_reducible refine class_opk (.int .i64 u.x.i) ?_ ?_ ?_
          · first | exact rfl | go_simp
          · intro W hW
            obtain ⟨g0, g1, g2, g3, g4, g5, g6, g7, g8⟩ := HU9.out.of_block (hW.block b hbq)
            go_simp
          intro KK hK
          go_simp
          with_reducible refine hK _ ?_
          clear hK KK
          with_reducible refine class_opk (.pointer (some ⟨wr.heap.size, 0, none⟩)) ?_ ?_ ?_
          · first | exact rfl | go_simp
          · intro W hW
            go_simp
          intro KK hK
          go_simp
          with_reducible refine hK _ ?_
          clear hK KK
          with_reducible refine class_opk (.int .i64 t.x.i) ?_ ?_ ?_
          · first | exact rfl | go_simp
          · intro W hW
            obtain ⟨g0, g1, g2, g3, g4, g5, g6, g7, g8⟩ := HQT.out.keep (B := WQ.heap.size) hq2 hW
            go_simp
          intro KK hK
          go_simp
          with_reducible refine hK _ ?_
          clear hK KK
          with_reducible refine class_opk (.bool true) ?_ ?_ ?_
          · first | exact rfl | go_simp
          · intro W hW
            go_simp
          intro KK hK
          go_simp
          with_reducible refine hK _ ?_
          clear hK KK
          with_reducible refine class_opk (.bool true) ?_ ?_ ?_
          · first | exact rfl | go_simp
          · intro W hW
            go_simp
          intro KK hK
          go_simp
          with_reducible refine hK _ ?_
          clear hK KK
          with_reducible refine class_opk (.bool true) ?_ ?_ ?_
          · first | exact rfl | go_simp
          · intro W hW
            go_simp
          intro KK hK
          go_simp
          with_reducible refine hK _ ?_
          clear hK KK
          with_reducible refine class_opk (.bool true) ?_ ?_ ?_
          · first | exact rfl | go_simp
          · intro W hW
            go_simp
          intro KK hK
          go_simp
          with_reducible refine hK _ ?_
          clear hK KK
          with_reducible refine class_skipk ?_ ?_
          · first | exact rfl | (go_simp; try simp [undef])
          intro KK hK
          go_simp
          with_reducible refine hK _ ?_
          clear hK KK
          with_reducible refine class_skipk ?_ ?_
          · first | exact rfl | (go_simp; try simp [undef])
          intro KK hK
          go_simp
          with_reducible refine hK _ ?_
          clear hK KK
          with_reducible refine class_skipk ?_ ?_
          · first | exact rfl | (go_simp; try simp [undef])
          intro KK hK
          go_simp
          with_reducible refine hK _ ?_
          clear hK KK
          with_reducible refine class_skipk ?_ ?_
          · first | exact rfl | (go_simp; try simp [undef])
          intro KK hK
          go_simp
          with_reducible refine hK _ ?_
          clear hK KK
          with_reducible refine class_skipk ?_ ?_
          · first | exact rfl | (go_simp; try simp [undef])
          intro KK hK
          go_simp
          with_reducible refine hK _ ?_
          clear hK KK
          with_reducible refine class_opk (.bool true) ?_ ?_ ?_
          · first | exact rfl | go_simp
          · intro W hW
            go_simp
          intro KK hK
          go_simp
          with_reducible refine hK _ ?_
          clear hK KK
          with_reducible refine class_opk (.bool true) ?_ ?_ ?_
          · first | exact rfl | go_simp
          · intro W hW
            go_simp
          intro KK hK
          go_simp
          with_reducible refine hK _ ?_
          clear hK KK
          with_reducible refine class_skipk ?_ ?_
          · first | exact rfl | (go_simp; try simp [undef])
          intro KK hK
          go_simp
          with_reducible refine hK _ ?_
          clear hK KK
          with_reducible refine class_skipk ?_ ?_
          · first | exact rfl | (go_simp; try simp [undef])
          intro KK hK
          go_simp
          with_reducible refine hK _ ?_
          clear hK KK
          with_reducible refine class_skipk ?_ ?_
          · first | exact rfl | (go_simp; try simp [undef])
          intro KK hK
          go_simp
          with_reducible refine hK _ ?_
          clear hK KK
          with_reducible refine class_skipk ?_ ?_
          · first | exact rfl | (go_simp; try simp [undef])
          intro KK hK
          go_simp
          with_reducible refine hK _ ?_
          clear hK KK
          with_reducible refine class_skipk ?_ ?_
          · first | exact rfl | (go_simp; try simp [undef])
          intro KK hK
          go_simp
          with_reducible refine hK _ ?_
          clear hK KK
          with_reducible refine class_opk (.bool true) ?_ ?_ ?_
          · first | exact rfl | go_simp
          · intro W hW
            go_simp
          intro KK hK
          go_simp
          with_reducible refine hK _ ?_
          clear hK KK
          with_reducible refine class_opk (.bool true) ?_ ?_ ?_
          · first | exact rfl | go_simp
          · intro W hW
            go_simp
          intro KK hK
          go_simp
          with_reducible refine hK _ ?_
          clear hK KK
          with_reducible refine class_skipk ?_ ?_
          · first | exact rfl | (go_simp; try simp [undef])
          intro KK hK
          go_simp
          with_reducible refine hK _ ?_
          clear hK KK
          with_reducible refine class_skipk ?_ ?_
          · first | exact rfl | (go_simp; try simp [undef])
          intro KK hK
          go_simp
          with_reducible refine hK _ ?_
          clear hK KK
          with_reducible refine class_skipk ?_ ?_
          · first | exact rfl | (go_simp; try simp [undef])
          intro KK hK
          go_simp
          with_reducible refine hK _ ?_
          clear hK KK
          with_reducible refine class_skipk ?_ ?_
          · first | exact rfl | (go_simp; try simp [undef])
          intro KK hK
          go_simp
          with_reducible refine hK _ ?_
          clear hK KK
          with_reducible refine class_skipk ?_ ?_
          · first | exact rfl | (go_simp; try simp [undef])
          intro KK hK
          go_simp
          with_reducible refine hK _ ?_
          clear hK KK
          with_reducible refine class_skipk ?_ ?_
          · first | exact rfl | (go_simp; try simp [undef])
          intro KK hK
          go_simp
          with_reducible refine hK _ ?_
          clear hK KK
          with_reducible refine class_skipk ?_ ?_
          · first | exact rfl | (go_simp; try simp [undef])
          intro KK hK
          go_simp
          with_reducible refine hK _ ?_
          clear hK KK
          with_reducible refine class_skipk ?_ ?_
          · first | exact rfl | (go_simp; try simp [undef])
          intro KK hK
          go_simp
          with_reducible refine hK _ ?_
          clear hK KK
          with_reducible refine class_skipk ?_ ?_
          · first | exact rfl | (go_simp; try simp [undef])
          intro KK hK
          go_simp
          with_reducible refine hK _ ?_
          clear hK KK
          with_reducible refine class_skipk ?_ ?_
          · first | exact rfl | (go_simp; try simp [undef])
          intro KK hK
          go_simp
          with_reducible refine hK _ ?_
          clear hK KK
          with_reducible refine class_opk (.bool true) ?_ ?_ ?_
          · first | exact rfl | go_simp
          · intro W hW
            go_simp
          intro KK hK
          go_simp
          with_reducible refine hK _ ?_
          clear hK KK
          go_simp
          intro V hV
          have HVB := Lib.hid (HQB.out.trans (hV.mono HQB.out.size))
          have HVW := Lib.hid (HQW.out.trans (hV.mono (by have := HQW.out.size; omega)))
          clear hV
          go_wp2_with fail
          go_ret
          exact ⟨ret_b HV.out.symm, HVB.out⟩
        have HFOL : Hid (0 < k → ∀ y, L[k - 1]? = some y → folT y t = true) := Lib.hid fun _ y hy => by rw [HY.out] at hy; cases hy; exact decide_eq_true (by have := of_decide_eq_false hge; omega)
        rcases htb2 : decide (z < t.x.b) with _ | _
        case true =>
          have HV : Hid (enB ⟨q, C, L, K, X, z⟩ = false) := Lib.hid (by rw [HEN2.out, show sqB (okT C z) folT L = false from sq_bad HX.out (by unfold okT; rw [show decide (t.x.b ≤ z) = false from decide_eq_false (by have := of_decide_eq_true htb2; omega)]; simp)]; rfl)
          refine class_region WQ.heap.size (by kernel_rfl) (by kernel_rfl) ?_
          with_reducible refine class_opk (.agg #[.int .i64 t.x.i, .int .i64 t.x.s, .int .i64 t.x.t, .int .i64 t.x.b, .int .i64 t.x.l, .int .i64 t.x.h, .int .i64 t.x.c, .slice P1 p1 pc, .slice P2 p2 qc]) ?_ ?_ ?_
          · first | exact rfl | go_simp
          · intro W hW
            obtain ⟨g0, g1, g2, g3, g4, g5, g6, g7, g8⟩ := HQT.out.keep (B := WQ.heap.size) hq2 hW
            go_simp
          intro KK hK
          go_simp
          with_reducible refine hK _ ?_
          clear hK KK
          with_reducible refine class_opk (.bool true) ?_ ?_ ?_
          · first | exact rfl | go_simp
          · intro W hW
            go_simp
            refine class_call hW ?_
            have hc := HTXC.out W hW
            rw [HTX.out] at hc
            exact hc
          intro KK hK
          go_simp
          with_reducible refine hK _ ?_
          clear hK KK
          with_reducible refine class_opk (.bool false) ?_ ?_ ?_
          · first | exact rfl | go_simp
          · intro W hW
            go_simp
          intro KK hK
          go_simp
          with_reducible refine hK _ ?_
          clear hK KK
          with_reducible refine class_opk (.bool false) ?_ ?_ ?_
          · first | exact rfl | go_simp
          · intro W hW
            go_simp
          intro KK hK
          go_simp
          with_reducible refine hK _ ?_
          clear hK KK
          with_reducible refine class_opk (.int .i64 (k : Int)) ?_ ?_ ?_
          · first | exact rfl | go_simp
          · intro W hW
            go_simp
          intro KK hK
          go_simp
          with_reducible refine hK _ ?_
          clear hK KK
          with_reducible refine class_opk (.bool true) ?_ ?_ ?_
          · first | exact rfl | go_simp
          · intro W hW
            go_simp
          intro KK hK
          go_simp
          with_reducible refine hK _ ?_
          clear hK KK
          with_reducible refine class_opk (.bool true) ?_ ?_ ?_
          · first | exact rfl | go_simp
          · intro W hW
            go_simp
          intro KK hK
          go_simp
          with_reducible refine hK _ ?_
          clear hK KK
          with_reducible refine class_opk (.pointer (some ⟨w.heap.size, 2, none⟩)) ?_ ?_ ?_
          · first | exact rfl | go_simp
          · intro W hW
            go_simp
          intro KK hK
          go_simp
          with_reducible refine hK _ ?_
          clear hK KK
          with_reducible refine class_opk (.slice (some ⟨b, o, none⟩) n2 c2) ?_ ?_ ?_
          · first | exact rfl | go_simp
          · intro W hW
            obtain ⟨g0, g1, g2, g3, g4, g5⟩ := HQE.out.keep (B := WQ.heap.size) hq1 hW
            go_simp
          intro KK hK
          go_simp
          with_reducible refine hK _ ?_
          clear hK KK
          with_reducible refine class_opk (.int .i64 (k : Int)) ?_ ?_ ?_
          · first | exact rfl | go_simp
          · intro W hW
            go_simp
          intro KK hK
          go_simp
          with_reducible refine hK _ ?_
          clear hK KK
          with_reducible refine class_opk (.int .i64 ((k : Int) - 1)) ?_ ?_ ?_
          · first | exact rfl | go_simp
          · intro W hW
            go_simp
          intro KK hK
          go_simp
          with_reducible refine hK _ ?_
          clear hK KK
          with_reducible refine class_opk (.pointer (some ⟨b, o + (k - 1) * 9, none⟩)) ?_ ?_ ?_
          · first | exact rfl | go_simp
          · intro W hW
            go_simp
          intro KK hK
          go_simp
          with_reducible refine hK _ ?_
          clear hK KK
          with_reducible refine class_opk (.pointer (some ⟨b, o + (k - 1) * 9, none⟩)) ?_ ?_ ?_
          · first | exact rfl | go_simp
          · intro W hW
            go_simp
          intro KK hK
          go_simp
          with_reducible refine hK _ ?_
          clear hK KK
          with_reducible refine class_opk (.int .i64 u.x.i) ?_ ?_ ?_
          · first | exact rfl | go_simp
          · intro W hW
            obtain ⟨g0, g1, g2, g3, g4, g5, g6, g7, g8⟩ := HU9.out.of_block (hW.block b hbq)
            go_simp
          intro KK hK
          go_simp
          with_reducible refine hK _ ?_
          clear hK KK
          with_reducible refine class_opk (.pointer (some ⟨wr.heap.size, 0, none⟩)) ?_ ?_ ?_
          · first | exact rfl | go_simp
          · intro W hW
            go_simp
          intro KK hK
          go_simp
          with_reducible refine hK _ ?_
          clear hK KK
          with_reducible refine class_opk (.int .i64 t.x.i) ?_ ?_ ?_
          · first | exact rfl | go_simp
          · intro W hW
            obtain ⟨g0, g1, g2, g3, g4, g5, g6, g7, g8⟩ := HQT.out.keep (B := WQ.heap.size) hq2 hW
            go_simp
          intro KK hK
          go_simp
          with_reducible refine hK _ ?_
          clear hK KK
          with_reducible refine class_opk (.bool false) ?_ ?_ ?_
          · first | exact rfl | go_simp
          · intro W hW
            go_simp
          intro KK hK
          go_simp
          with_reducible refine hK _ ?_
          clear hK KK
          with_reducible refine class_opk (.bool false) ?_ ?_ ?_
          · first | exact rfl | go_simp
          · intro W hW
            go_simp
          intro KK hK
          go_simp
          with_reducible refine hK _ ?_
          clear hK KK
          with_reducible refine class_opk (.bool false) ?_ ?_ ?_
          · first | exact rfl | go_simp
          · intro W hW
            go_simp
          intro KK hK
          go_simp
          with_reducible refine hK _ ?_
          clear hK KK
          with_reducible refine class_opk (.bool false) ?_ ?_ ?_
          · first | exact rfl | go_simp
          · intro W hW
            go_simp
          intro KK hK
          go_simp
          with_reducible refine hK _ ?_
          clear hK KK
          with_reducible refine class_opk (.pointer (some ⟨wr.heap.size, 3, none⟩)) ?_ ?_ ?_
          · first | exact rfl | go_simp
          · intro W hW
            go_simp
          intro KK hK
          go_simp
          with_reducible refine hK _ ?_
          clear hK KK
          with_reducible refine class_opk (.int .i64 t.x.b) ?_ ?_ ?_
          · first | exact rfl | go_simp
          · intro W hW
            obtain ⟨g0, g1, g2, g3, g4, g5, g6, g7, g8⟩ := HQT.out.keep (B := WQ.heap.size) hq2 hW
            go_simp
          intro KK hK
          go_simp
          with_reducible refine hK _ ?_
          clear hK KK
          with_reducible refine class_opk (.pointer (some ⟨w.heap.size, 5, none⟩)) ?_ ?_ ?_
          · first | exact rfl | go_simp
          · intro W hW
            go_simp
          intro KK hK
          go_simp
          with_reducible refine hK _ ?_
          clear hK KK
          with_reducible refine class_opk (.int .i64 z) ?_ ?_ ?_
          · first | exact rfl | go_simp
          · intro W hW
            obtain ⟨g0, g1, g2, g3, g4, g5⟩ := HQE.out.keep (B := WQ.heap.size) hq1 hW
            go_simp
          intro KK hK
          go_simp
          with_reducible refine hK _ ?_
          clear hK KK
          with_reducible refine class_opk (.bool true) ?_ ?_ ?_
          · first | exact rfl | go_simp
          · intro W hW
            go_simp
          intro KK hK
          go_simp
          with_reducible refine hK _ ?_
          clear hK KK
          with_reducible refine class_opk (.bool true) ?_ ?_ ?_
          · first | exact rfl | go_simp
          · intro W hW
            go_simp
          intro KK hK
          go_simp
          with_reducible refine hK _ ?_
          clear hK KK
          with_reducible refine class_opk (.bool true) ?_ ?_ ?_
          · first | exact rfl | go_simp
          · intro W hW
            go_simp
          intro KK hK
          go_simp
          with_reducible refine hK _ ?_
          clear hK KK
          with_reducible refine class_skipk ?_ ?_
          · first | exact rfl | (go_simp; try simp [undef])
          intro KK hK
          go_simp
          with_reducible refine hK _ ?_
          clear hK KK
          with_reducible refine class_skipk ?_ ?_
          · first | exact rfl | (go_simp; try simp [undef])
          intro KK hK
          go_simp
          with_reducible refine hK _ ?_
          clear hK KK
          with_reducible refine class_skipk ?_ ?_
          · first | exact rfl | (go_simp; try simp [undef])
          intro KK hK
          go_simp
          with_reducible refine hK _ ?_
          clear hK KK
          with_reducible refine class_skipk ?_ ?_
          · first | exact rfl | (go_simp; try simp [undef])
          intro KK hK
          go_simp
          with_reducible refine hK _ ?_
          clear hK KK
          with_reducible refine class_skipk ?_ ?_
          · first | exact rfl | (go_simp; try simp [undef])
          intro KK hK
          go_simp
          with_reducible refine hK _ ?_
          clear hK KK
          with_reducible refine class_opk (.bool true) ?_ ?_ ?_
          · first | exact rfl | go_simp
          · intro W hW
            go_simp
          intro KK hK
          go_simp
          with_reducible refine hK _ ?_
          clear hK KK
          with_reducible refine class_opk (.bool true) ?_ ?_ ?_
          · first | exact rfl | go_simp
          · intro W hW
            go_simp
          intro KK hK
          go_simp
          with_reducible refine hK _ ?_
          clear hK KK
          with_reducible refine class_skipk ?_ ?_
          · first | exact rfl | (go_simp; try simp [undef])
          intro KK hK
          go_simp
          with_reducible refine hK _ ?_
          clear hK KK
          with_reducible refine class_skipk ?_ ?_
          · first | exact rfl | (go_simp; try simp [undef])
          intro KK hK
          go_simp
          with_reducible refine hK _ ?_
          clear hK KK
          with_reducible refine class_skipk ?_ ?_
          · first | exact rfl | (go_simp; try simp [undef])
          intro KK hK
          go_simp
          with_reducible refine hK _ ?_
          clear hK KK
          with_reducible refine class_skipk ?_ ?_
          · first | exact rfl | (go_simp; try simp [undef])
          intro KK hK
          go_simp
          with_reducible refine hK _ ?_
          clear hK KK
          with_reducible refine class_skipk ?_ ?_
          · first | exact rfl | (go_simp; try simp [undef])
          intro KK hK
          go_simp
          with_reducible refine hK _ ?_
          clear hK KK
          with_reducible refine class_skipk ?_ ?_
          · first | exact rfl | (go_simp; try simp [undef])
          intro KK hK
          go_simp
          with_reducible refine hK _ ?_
          clear hK KK
          with_reducible refine class_skipk ?_ ?_
          · first | exact rfl | (go_simp; try simp [undef])
          intro KK hK
          go_simp
          with_reducible refine hK _ ?_
          clear hK KK
          with_reducible refine class_skipk ?_ ?_
          · first | exact rfl | (go_simp; try simp [undef])
          intro KK hK
          go_simp
          with_reducible refine hK _ ?_
          clear hK KK
          with_reducible refine class_skipk ?_ ?_
          · first | exact rfl | (go_simp; try simp [undef])
          intro KK hK
          go_simp
          with_reducible refine hK _ ?_
          clear hK KK
          with_reducible refine class_skipk ?_ ?_
          · first | exact rfl | (go_simp; try simp [undef])
          intro KK hK
          go_simp
          with_reducible refine hK _ ?_
          clear hK KK
          with_reducible refine class_opk (.bool true) ?_ ?_ ?_
          · first | exact rfl | go_simp
          · intro W hW
            go_simp
          intro KK hK
          go_simp
          with_reducible refine hK _ ?_
          clear hK KK
          go_simp
          intro V hV
          have HVB := Lib.hid (HQB.out.trans (hV.mono HQB.out.size))
          have HVW := Lib.hid (HQW.out.trans (hV.mono (by have := HQW.out.size; omega)))
          clear hV
          go_wp2_with fail
          go_ret
          exact ⟨ret_b HV.out.symm, HVB.out⟩
        rcases htc2 : decide (z < t.x.c) with _ | _
        case true =>
          have HV : Hid (enB ⟨q, C, L, K, X, z⟩ = false) := Lib.hid (by rw [HEN2.out, show sqB (okT C z) folT L = false from sq_bad HX.out (by unfold okT; rw [show decide (t.x.c ≤ z) = false from decide_eq_false (by have := of_decide_eq_true htc2; omega)]; simp)]; rfl)
          refine class_region WQ.heap.size (by kernel_rfl) (by kernel_rfl) ?_
          with_reducible refine class_opk (.agg #[.int .i64 t.x.i, .int .i64 t.x.s, .int .i64 t.x.t, .int .i64 t.x.b, .int .i64 t.x.l, .int .i64 t.x.h, .int .i64 t.x.c, .slice P1 p1 pc, .slice P2 p2 qc]) ?_ ?_ ?_
          · first | exact rfl | go_simp
          · intro W hW
            obtain ⟨g0, g1, g2, g3, g4, g5, g6, g7, g8⟩ := HQT.out.keep (B := WQ.heap.size) hq2 hW
            go_simp
          intro KK hK
          go_simp
          with_reducible refine hK _ ?_
          clear hK KK
          with_reducible refine class_opk (.bool true) ?_ ?_ ?_
          · first | exact rfl | go_simp
          · intro W hW
            go_simp
            refine class_call hW ?_
            have hc := HTXC.out W hW
            rw [HTX.out] at hc
            exact hc
          intro KK hK
          go_simp
          with_reducible refine hK _ ?_
          clear hK KK
          with_reducible refine class_opk (.bool false) ?_ ?_ ?_
          · first | exact rfl | go_simp
          · intro W hW
            go_simp
          intro KK hK
          go_simp
          with_reducible refine hK _ ?_
          clear hK KK
          with_reducible refine class_opk (.bool false) ?_ ?_ ?_
          · first | exact rfl | go_simp
          · intro W hW
            go_simp
          intro KK hK
          go_simp
          with_reducible refine hK _ ?_
          clear hK KK
          with_reducible refine class_opk (.int .i64 (k : Int)) ?_ ?_ ?_
          · first | exact rfl | go_simp
          · intro W hW
            go_simp
          intro KK hK
          go_simp
          with_reducible refine hK _ ?_
          clear hK KK
          with_reducible refine class_opk (.bool true) ?_ ?_ ?_
          · first | exact rfl | go_simp
          · intro W hW
            go_simp
          intro KK hK
          go_simp
          with_reducible refine hK _ ?_
          clear hK KK
          with_reducible refine class_opk (.bool true) ?_ ?_ ?_
          · first | exact rfl | go_simp
          · intro W hW
            go_simp
          intro KK hK
          go_simp
          with_reducible refine hK _ ?_
          clear hK KK
          with_reducible refine class_opk (.pointer (some ⟨w.heap.size, 2, none⟩)) ?_ ?_ ?_
          · first | exact rfl | go_simp
          · intro W hW
            go_simp
          intro KK hK
          go_simp
          with_reducible refine hK _ ?_
          clear hK KK
          with_reducible refine class_opk (.slice (some ⟨b, o, none⟩) n2 c2) ?_ ?_ ?_
          · first | exact rfl | go_simp
          · intro W hW
            obtain ⟨g0, g1, g2, g3, g4, g5⟩ := HQE.out.keep (B := WQ.heap.size) hq1 hW
            go_simp
          intro KK hK
          go_simp
          with_reducible refine hK _ ?_
          clear hK KK
          with_reducible refine class_opk (.int .i64 (k : Int)) ?_ ?_ ?_
          · first | exact rfl | go_simp
          · intro W hW
            go_simp
          intro KK hK
          go_simp
          with_reducible refine hK _ ?_
          clear hK KK
          with_reducible refine class_opk (.int .i64 ((k : Int) - 1)) ?_ ?_ ?_
          · first | exact rfl | go_simp
          · intro W hW
            go_simp
          intro KK hK
          go_simp
          with_reducible refine hK _ ?_
          clear hK KK
          with_reducible refine class_opk (.pointer (some ⟨b, o + (k - 1) * 9, none⟩)) ?_ ?_ ?_
          · first | exact rfl | go_simp
          · intro W hW
            go_simp
          intro KK hK
          go_simp
          with_reducible refine hK _ ?_
          clear hK KK
          with_reducible refine class_opk (.pointer (some ⟨b, o + (k - 1) * 9, none⟩)) ?_ ?_ ?_
          · first | exact rfl | go_simp
          · intro W hW
            go_simp
          intro KK hK
          go_simp
          with_reducible refine hK _ ?_
          clear hK KK
          with_reducible refine class_opk (.int .i64 u.x.i) ?_ ?_ ?_
          · first | exact rfl | go_simp
          · intro W hW
            obtain ⟨g0, g1, g2, g3, g4, g5, g6, g7, g8⟩ := HU9.out.of_block (hW.block b hbq)
            go_simp
          intro KK hK
          go_simp
          with_reducible refine hK _ ?_
          clear hK KK
          with_reducible refine class_opk (.pointer (some ⟨wr.heap.size, 0, none⟩)) ?_ ?_ ?_
          · first | exact rfl | go_simp
          · intro W hW
            go_simp
          intro KK hK
          go_simp
          with_reducible refine hK _ ?_
          clear hK KK
          with_reducible refine class_opk (.int .i64 t.x.i) ?_ ?_ ?_
          · first | exact rfl | go_simp
          · intro W hW
            obtain ⟨g0, g1, g2, g3, g4, g5, g6, g7, g8⟩ := HQT.out.keep (B := WQ.heap.size) hq2 hW
            go_simp
          intro KK hK
          go_simp
          with_reducible refine hK _ ?_
          clear hK KK
          with_reducible refine class_opk (.bool false) ?_ ?_ ?_
          · first | exact rfl | go_simp
          · intro W hW
            go_simp
          intro KK hK
          go_simp
          with_reducible refine hK _ ?_
          clear hK KK
          with_reducible refine class_opk (.bool false) ?_ ?_ ?_
          · first | exact rfl | go_simp
          · intro W hW
            go_simp
          intro KK hK
          go_simp
          with_reducible refine hK _ ?_
          clear hK KK
          with_reducible refine class_opk (.bool false) ?_ ?_ ?_
          · first | exact rfl | go_simp
          · intro W hW
            go_simp
          intro KK hK
          go_simp
          with_reducible refine hK _ ?_
          clear hK KK
          with_reducible refine class_opk (.bool false) ?_ ?_ ?_
          · first | exact rfl | go_simp
          · intro W hW
            go_simp
          intro KK hK
          go_simp
          with_reducible refine hK _ ?_
          clear hK KK
          with_reducible refine class_opk (.pointer (some ⟨wr.heap.size, 3, none⟩)) ?_ ?_ ?_
          · first | exact rfl | go_simp
          · intro W hW
            go_simp
          intro KK hK
          go_simp
          with_reducible refine hK _ ?_
          clear hK KK
          with_reducible refine class_opk (.int .i64 t.x.b) ?_ ?_ ?_
          · first | exact rfl | go_simp
          · intro W hW
            obtain ⟨g0, g1, g2, g3, g4, g5, g6, g7, g8⟩ := HQT.out.keep (B := WQ.heap.size) hq2 hW
            go_simp
          intro KK hK
          go_simp
          with_reducible refine hK _ ?_
          clear hK KK
          with_reducible refine class_opk (.pointer (some ⟨w.heap.size, 5, none⟩)) ?_ ?_ ?_
          · first | exact rfl | go_simp
          · intro W hW
            go_simp
          intro KK hK
          go_simp
          with_reducible refine hK _ ?_
          clear hK KK
          with_reducible refine class_opk (.int .i64 z) ?_ ?_ ?_
          · first | exact rfl | go_simp
          · intro W hW
            obtain ⟨g0, g1, g2, g3, g4, g5⟩ := HQE.out.keep (B := WQ.heap.size) hq1 hW
            go_simp
          intro KK hK
          go_simp
          with_reducible refine hK _ ?_
          clear hK KK
          with_reducible refine class_opk (.bool false) ?_ ?_ ?_
          · first | exact rfl | go_simp
          · intro W hW
            go_simp
          intro KK hK
          go_simp
          with_reducible refine hK _ ?_
          clear hK KK
          with_reducible refine class_opk (.bool false) ?_ ?_ ?_
          · first | exact rfl | go_simp
          · intro W hW
            go_simp
          intro KK hK
          go_simp
          with_reducible refine hK _ ?_
          clear hK KK
          with_reducible refine class_opk (.bool false) ?_ ?_ ?_
          · first | exact rfl | go_simp
          · intro W hW
            go_simp
          intro KK hK
          go_simp
          with_reducible refine hK _ ?_
          clear hK KK
          with_reducible refine class_opk (.pointer (some ⟨wr.heap.size, 6, none⟩)) ?_ ?_ ?_
          · first | exact rfl | go_simp
          · intro W hW
            go_simp
          intro KK hK
          go_simp
          with_reducible refine hK _ ?_
          clear hK KK
          with_reducible refine class_opk (.int .i64 t.x.c) ?_ ?_ ?_
          · first | exact rfl | go_simp
          · intro W hW
            obtain ⟨g0, g1, g2, g3, g4, g5, g6, g7, g8⟩ := HQT.out.keep (B := WQ.heap.size) hq2 hW
            go_simp
          intro KK hK
          go_simp
          with_reducible refine hK _ ?_
          clear hK KK
          with_reducible refine class_opk (.pointer (some ⟨w.heap.size, 5, none⟩)) ?_ ?_ ?_
          · first | exact rfl | go_simp
          · intro W hW
            go_simp
          intro KK hK
          go_simp
          with_reducible refine hK _ ?_
          clear hK KK
          with_reducible refine class_opk (.int .i64 z) ?_ ?_ ?_
          · first | exact rfl | go_simp
          · intro W hW
            obtain ⟨g0, g1, g2, g3, g4, g5⟩ := HQE.out.keep (B := WQ.heap.size) hq1 hW
            go_simp
          intro KK hK
          go_simp
          with_reducible refine hK _ ?_
          clear hK KK
          with_reducible refine class_opk (.bool true) ?_ ?_ ?_
          · first | exact rfl | go_simp
          · intro W hW
            go_simp
          intro KK hK
          go_simp
          with_reducible refine hK _ ?_
          clear hK KK
          with_reducible refine class_opk (.bool true) ?_ ?_ ?_
          · first | exact rfl | go_simp
          · intro W hW
            go_simp
          intro KK hK
          go_simp
          with_reducible refine hK _ ?_
          clear hK KK
          with_reducible refine class_opk (.bool true) ?_ ?_ ?_
          · first | exact rfl | go_simp
          · intro W hW
            go_simp
          intro KK hK
          go_simp
          with_reducible refine hK _ ?_
          clear hK KK
          with_reducible refine class_skipk ?_ ?_
          · first | exact rfl | (go_simp; try simp [undef])
          intro KK hK
          go_simp
          with_reducible refine hK _ ?_
          clear hK KK
          with_reducible refine class_skipk ?_ ?_
          · first | exact rfl | (go_simp; try simp [undef])
          intro KK hK
          go_simp
          with_reducible refine hK _ ?_
          clear hK KK
          with_reducible refine class_skipk ?_ ?_
          · first | exact rfl | (go_simp; try simp [undef])
          intro KK hK
          go_simp
          with_reducible refine hK _ ?_
          clear hK KK
          with_reducible refine class_skipk ?_ ?_
          · first | exact rfl | (go_simp; try simp [undef])
          intro KK hK
          go_simp
          with_reducible refine hK _ ?_
          clear hK KK
          with_reducible refine class_skipk ?_ ?_
          · first | exact rfl | (go_simp; try simp [undef])
          intro KK hK
          go_simp
          with_reducible refine hK _ ?_
          clear hK KK
          with_reducible refine class_skipk ?_ ?_
          · first | exact rfl | (go_simp; try simp [undef])
          intro KK hK
          go_simp
          with_reducible refine hK _ ?_
          clear hK KK
          with_reducible refine class_skipk ?_ ?_
          · first | exact rfl | (go_simp; try simp [undef])
          intro KK hK
          go_simp
          with_reducible refine hK _ ?_
          clear hK KK
          with_reducible refine class_skipk ?_ ?_
          · first | exact rfl | (go_simp; try simp [undef])
          intro KK hK
          go_simp
          with_reducible refine hK _ ?_
          clear hK KK
          with_reducible refine class_skipk ?_ ?_
          · first | exact rfl | (go_simp; try simp [undef])
          intro KK hK
          go_simp
          with_reducible refine hK _ ?_
          clear hK KK
          with_reducible refine class_skipk ?_ ?_
          · first | exact rfl | (go_simp; try simp [undef])
          intro KK hK
          go_simp
          with_reducible refine hK _ ?_
          clear hK KK
          with_reducible refine class_opk (.bool true) ?_ ?_ ?_
          · first | exact rfl | go_simp
          · intro W hW
            go_simp
          intro KK hK
          go_simp
          with_reducible refine hK _ ?_
          clear hK KK
          go_simp
          intro V hV
          have HVB := Lib.hid (HQB.out.trans (hV.mono HQB.out.size))
          have HVW := Lib.hid (HQW.out.trans (hV.mono (by have := HQW.out.size; omega)))
          clear hV
          go_wp2_with fail
          go_ret
          exact ⟨ret_b HV.out.symm, HVB.out⟩
        have hbz : decide (t.x.b ≤ z) = true := decide_eq_true (by have := of_decide_eq_false htb2; omega)
        have hcz : decide (t.x.c ≤ z) = true := decide_eq_true (by have := of_decide_eq_false htc2; omega)
        by_cases hac : t.x.t = 1
        case neg =>
          have tac : (t.x.t == 1) = false := by simpa using hac
          have HOK : Hid (okT C z t = true) := Lib.hid (by unfold okT; rw [HTX.out, hbz, hcz, decide_eq_false hac]; rfl)
          clear hac
          refine class_region WQ.heap.size (by kernel_rfl) (by kernel_rfl) ?_
          with_reducible refine class_opk (.agg #[.int .i64 t.x.i, .int .i64 t.x.s, .int .i64 t.x.t, .int .i64 t.x.b, .int .i64 t.x.l, .int .i64 t.x.h, .int .i64 t.x.c, .slice P1 p1 pc, .slice P2 p2 qc]) ?_ ?_ ?_
          · first | exact rfl | go_simp
          · intro W hW
            obtain ⟨g0, g1, g2, g3, g4, g5, g6, g7, g8⟩ := HQT.out.keep (B := WQ.heap.size) hq2 hW
            go_simp
          intro KK hK
          go_simp
          with_reducible refine hK _ ?_
          clear hK KK
          with_reducible refine class_opk (.bool true) ?_ ?_ ?_
          · first | exact rfl | go_simp
          · intro W hW
            go_simp
            refine class_call hW ?_
            have hc := HTXC.out W hW
            rw [HTX.out] at hc
            exact hc
          intro KK hK
          go_simp
          with_reducible refine hK _ ?_
          clear hK KK
          with_reducible refine class_opk (.bool false) ?_ ?_ ?_
          · first | exact rfl | go_simp
          · intro W hW
            go_simp
          intro KK hK
          go_simp
          with_reducible refine hK _ ?_
          clear hK KK
          with_reducible refine class_opk (.bool false) ?_ ?_ ?_
          · first | exact rfl | go_simp
          · intro W hW
            go_simp
          intro KK hK
          go_simp
          with_reducible refine hK _ ?_
          clear hK KK
          with_reducible refine class_opk (.int .i64 (k : Int)) ?_ ?_ ?_
          · first | exact rfl | go_simp
          · intro W hW
            go_simp
          intro KK hK
          go_simp
          with_reducible refine hK _ ?_
          clear hK KK
          with_reducible refine class_opk (.bool true) ?_ ?_ ?_
          · first | exact rfl | go_simp
          · intro W hW
            go_simp
          intro KK hK
          go_simp
          with_reducible refine hK _ ?_
          clear hK KK
          with_reducible refine class_opk (.bool true) ?_ ?_ ?_
          · first | exact rfl | go_simp
          · intro W hW
            go_simp
          intro KK hK
          go_simp
          with_reducible refine hK _ ?_
          clear hK KK
          with_reducible refine class_opk (.pointer (some ⟨w.heap.size, 2, none⟩)) ?_ ?_ ?_
          · first | exact rfl | go_simp
          · intro W hW
            go_simp
          intro KK hK
          go_simp
          with_reducible refine hK _ ?_
          clear hK KK
          with_reducible refine class_opk (.slice (some ⟨b, o, none⟩) n2 c2) ?_ ?_ ?_
          · first | exact rfl | go_simp
          · intro W hW
            obtain ⟨g0, g1, g2, g3, g4, g5⟩ := HQE.out.keep (B := WQ.heap.size) hq1 hW
            go_simp
          intro KK hK
          go_simp
          with_reducible refine hK _ ?_
          clear hK KK
          with_reducible refine class_opk (.int .i64 (k : Int)) ?_ ?_ ?_
          · first | exact rfl | go_simp
          · intro W hW
            go_simp
          intro KK hK
          go_simp
          with_reducible refine hK _ ?_
          clear hK KK
          with_reducible refine class_opk (.int .i64 ((k : Int) - 1)) ?_ ?_ ?_
          · first | exact rfl | go_simp
          · intro W hW
            go_simp
          intro KK hK
          go_simp
          with_reducible refine hK _ ?_
          clear hK KK
          with_reducible refine class_opk (.pointer (some ⟨b, o + (k - 1) * 9, none⟩)) ?_ ?_ ?_
          · first | exact rfl | go_simp
          · intro W hW
            go_simp
          intro KK hK
          go_simp
          with_reducible refine hK _ ?_
          clear hK KK
          with_reducible refine class_opk (.pointer (some ⟨b, o + (k - 1) * 9, none⟩)) ?_ ?_ ?_
          · first | exact rfl | go_simp
          · intro W hW
            go_simp
          intro KK hK
          go_simp
          with_reducible refine hK _ ?_
          clear hK KK
          with_reducible refine class_opk (.int .i64 u.x.i) ?_ ?_ ?_
          · first | exact rfl | go_simp
          · intro W hW
            obtain ⟨g0, g1, g2, g3, g4, g5, g6, g7, g8⟩ := HU9.out.of_block (hW.block b hbq)
            go_simp
          intro KK hK
          go_simp
          with_reducible refine hK _ ?_
          clear hK KK
          with_reducible refine class_opk (.pointer (some ⟨wr.heap.size, 0, none⟩)) ?_ ?_ ?_
          · first | exact rfl | go_simp
          · intro W hW
            go_simp
          intro KK hK
          go_simp
          with_reducible refine hK _ ?_
          clear hK KK
          with_reducible refine class_opk (.int .i64 t.x.i) ?_ ?_ ?_
          · first | exact rfl | go_simp
          · intro W hW
            obtain ⟨g0, g1, g2, g3, g4, g5, g6, g7, g8⟩ := HQT.out.keep (B := WQ.heap.size) hq2 hW
            go_simp
          intro KK hK
          go_simp
          with_reducible refine hK _ ?_
          clear hK KK
          with_reducible refine class_opk (.bool false) ?_ ?_ ?_
          · first | exact rfl | go_simp
          · intro W hW
            go_simp
          intro KK hK
          go_simp
          with_reducible refine hK _ ?_
          clear hK KK
          with_reducible refine class_opk (.bool false) ?_ ?_ ?_
          · first | exact rfl | go_simp
          · intro W hW
            go_simp
          intro KK hK
          go_simp
          with_reducible refine hK _ ?_
          clear hK KK
          with_reducible refine class_opk (.bool false) ?_ ?_ ?_
          · first | exact rfl | go_simp
          · intro W hW
            go_simp
          intro KK hK
          go_simp
          with_reducible refine hK _ ?_
          clear hK KK
          with_reducible refine class_opk (.bool false) ?_ ?_ ?_
          · first | exact rfl | go_simp
          · intro W hW
            go_simp
          intro KK hK
          go_simp
          with_reducible refine hK _ ?_
          clear hK KK
          with_reducible refine class_opk (.pointer (some ⟨wr.heap.size, 3, none⟩)) ?_ ?_ ?_
          · first | exact rfl | go_simp
          · intro W hW
            go_simp
          intro KK hK
          go_simp
          with_reducible refine hK _ ?_
          clear hK KK
          with_reducible refine class_opk (.int .i64 t.x.b) ?_ ?_ ?_
          · first | exact rfl | go_simp
          · intro W hW
            obtain ⟨g0, g1, g2, g3, g4, g5, g6, g7, g8⟩ := HQT.out.keep (B := WQ.heap.size) hq2 hW
            go_simp
          intro KK hK
          go_simp
          with_reducible refine hK _ ?_
          clear hK KK
          with_reducible refine class_opk (.pointer (some ⟨w.heap.size, 5, none⟩)) ?_ ?_ ?_
          · first | exact rfl | go_simp
          · intro W hW
            go_simp
          intro KK hK
          go_simp
          with_reducible refine hK _ ?_
          clear hK KK
          with_reducible refine class_opk (.int .i64 z) ?_ ?_ ?_
          · first | exact rfl | go_simp
          · intro W hW
            obtain ⟨g0, g1, g2, g3, g4, g5⟩ := HQE.out.keep (B := WQ.heap.size) hq1 hW
            go_simp
          intro KK hK
          go_simp
          with_reducible refine hK _ ?_
          clear hK KK
          with_reducible refine class_opk (.bool false) ?_ ?_ ?_
          · first | exact rfl | go_simp
          · intro W hW
            go_simp
          intro KK hK
          go_simp
          with_reducible refine hK _ ?_
          clear hK KK
          with_reducible refine class_opk (.bool false) ?_ ?_ ?_
          · first | exact rfl | go_simp
          · intro W hW
            go_simp
          intro KK hK
          go_simp
          with_reducible refine hK _ ?_
          clear hK KK
          with_reducible refine class_opk (.bool false) ?_ ?_ ?_
          · first | exact rfl | go_simp
          · intro W hW
            go_simp
          intro KK hK
          go_simp
          with_reducible refine hK _ ?_
          clear hK KK
          with_reducible refine class_opk (.pointer (some ⟨wr.heap.size, 6, none⟩)) ?_ ?_ ?_
          · first | exact rfl | go_simp
          · intro W hW
            go_simp
          intro KK hK
          go_simp
          with_reducible refine hK _ ?_
          clear hK KK
          with_reducible refine class_opk (.int .i64 t.x.c) ?_ ?_ ?_
          · first | exact rfl | go_simp
          · intro W hW
            obtain ⟨g0, g1, g2, g3, g4, g5, g6, g7, g8⟩ := HQT.out.keep (B := WQ.heap.size) hq2 hW
            go_simp
          intro KK hK
          go_simp
          with_reducible refine hK _ ?_
          clear hK KK
          with_reducible refine class_opk (.pointer (some ⟨w.heap.size, 5, none⟩)) ?_ ?_ ?_
          · first | exact rfl | go_simp
          · intro W hW
            go_simp
          intro KK hK
          go_simp
          with_reducible refine hK _ ?_
          clear hK KK
          with_reducible refine class_opk (.int .i64 z) ?_ ?_ ?_
          · first | exact rfl | go_simp
          · intro W hW
            obtain ⟨g0, g1, g2, g3, g4, g5⟩ := HQE.out.keep (B := WQ.heap.size) hq1 hW
            go_simp
          intro KK hK
          go_simp
          with_reducible refine hK _ ?_
          clear hK KK
          with_reducible refine class_opk (.bool false) ?_ ?_ ?_
          · first | exact rfl | go_simp
          · intro W hW
            go_simp
          intro KK hK
          go_simp
          with_reducible refine hK _ ?_
          clear hK KK
          with_reducible refine class_opk (.bool false) ?_ ?_ ?_
          · first | exact rfl | go_simp
          · intro W hW
            go_simp
          intro KK hK
          go_simp
          with_reducible refine hK _ ?_
          clear hK KK
          with_reducible refine class_opk (.bool false) ?_ ?_ ?_
          · first | exact rfl | go_simp
          · intro W hW
            go_simp
          intro KK hK
          go_simp
          with_reducible refine hK _ ?_
          clear hK KK
          with_reducible refine class_opk (.pointer (some ⟨wr.heap.size, 2, none⟩)) ?_ ?_ ?_
          · first | exact rfl | go_simp
          · intro W hW
            go_simp
          intro KK hK
          go_simp
          with_reducible refine hK _ ?_
          clear hK KK
          with_reducible refine class_opk (.int .i64 t.x.t) ?_ ?_ ?_
          · first | exact rfl | go_simp
          · intro W hW
            obtain ⟨g0, g1, g2, g3, g4, g5, g6, g7, g8⟩ := HQT.out.keep (B := WQ.heap.size) hq2 hW
            go_simp
          intro KK hK
          go_simp
          with_reducible refine hK _ ?_
          clear hK KK
          with_reducible refine class_opk (.bool false) ?_ ?_ ?_
          · first | exact rfl | go_simp
          · intro W hW
            go_simp
          intro KK hK
          go_simp
          with_reducible refine hK _ ?_
          clear hK KK
          with_reducible refine class_opk (.bool false) ?_ ?_ ?_
          · first | exact rfl | go_simp
          · intro W hW
            go_simp
          intro KK hK
          go_simp
          with_reducible refine hK _ ?_
          clear hK KK
          with_reducible refine class_skipk ?_ ?_
          · first | exact rfl | (go_simp; try simp [undef])
          intro KK hK
          go_simp
          with_reducible refine hK _ ?_
          clear hK KK
          with_reducible refine class_skipk ?_ ?_
          · first | exact rfl | (go_simp; try simp [undef])
          intro KK hK
          go_simp
          with_reducible refine hK _ ?_
          clear hK KK
          with_reducible refine class_skipk ?_ ?_
          · first | exact rfl | (go_simp; try simp [undef])
          intro KK hK
          go_simp
          with_reducible refine hK _ ?_
          clear hK KK
          with_reducible refine class_skipk ?_ ?_
          · first | exact rfl | (go_simp; try simp [undef])
          intro KK hK
          go_simp
          with_reducible refine hK _ ?_
          clear hK KK
          with_reducible refine class_skipk ?_ ?_
          · first | exact rfl | (go_simp; try simp [undef])
          intro KK hK
          go_simp
          with_reducible refine hK _ ?_
          clear hK KK
          with_reducible refine class_opk (.bool false) ?_ ?_ ?_
          · first | exact rfl | go_simp
          · intro W hW
            go_simp
          intro KK hK
          go_simp
          with_reducible refine hK _ ?_
          clear hK KK
          with_reducible refine class_opk (.bool false) ?_ ?_ ?_
          · first | exact rfl | go_simp
          · intro W hW
            go_simp
          intro KK hK
          go_simp
          with_reducible refine hK _ ?_
          clear hK KK
          go_simp
          intro V hV
          have HVB := Lib.hid (HQB.out.trans (hV.mono HQB.out.size))
          have HVW := Lib.hid (HQW.out.trans (hV.mono (by have := HQW.out.size; omega)))
          clear hV
          go_wp2_with fail
          go_roundw
          case rel => exact ⟨k + 1, by omega, by go_num, pri_step HP.out HX.out (HOK.out) HFOL.out, HVW.out⟩
          case measure => simp [intOf]; omega
        have tac : (t.x.t == 1) = true := by simpa using hac
        rcases hrx : rexB C t.x t.R t.S with _ | _
        · have HRX := Lib.hid hrx
          have HV : Hid (enB ⟨q, C, L, K, X, z⟩ = false) := Lib.hid (by rw [HEN2.out, show sqB (okT C z) folT L = false from sq_bad HX.out (by unfold okT; rw [decide_eq_true hac, hrx]; simp)]; rfl)
          clear hac hrx
          refine class_region WQ.heap.size (by kernel_rfl) (by kernel_rfl) ?_
          with_reducible refine class_opk (.agg #[.int .i64 t.x.i, .int .i64 t.x.s, .int .i64 t.x.t, .int .i64 t.x.b, .int .i64 t.x.l, .int .i64 t.x.h, .int .i64 t.x.c, .slice P1 p1 pc, .slice P2 p2 qc]) ?_ ?_ ?_
          · first | exact rfl | go_simp
          · intro W hW
            obtain ⟨g0, g1, g2, g3, g4, g5, g6, g7, g8⟩ := HQT.out.keep (B := WQ.heap.size) hq2 hW
            go_simp
          intro KK hK
          go_simp
          with_reducible refine hK _ ?_
          clear hK KK
          with_reducible refine class_opk (.bool true) ?_ ?_ ?_
          · first | exact rfl | go_simp
          · intro W hW
            go_simp
            refine class_call hW ?_
            have hc := HTXC.out W hW
            rw [HTX.out] at hc
            exact hc
          intro KK hK
          go_simp
          with_reducible refine hK _ ?_
          clear hK KK
          with_reducible refine class_opk (.bool false) ?_ ?_ ?_
          · first | exact rfl | go_simp
          · intro W hW
            go_simp
          intro KK hK
          go_simp
          with_reducible refine hK _ ?_
          clear hK KK
          with_reducible refine class_opk (.bool false) ?_ ?_ ?_
          · first | exact rfl | go_simp
          · intro W hW
            go_simp
          intro KK hK
          go_simp
          with_reducible refine hK _ ?_
          clear hK KK
          with_reducible refine class_opk (.int .i64 (k : Int)) ?_ ?_ ?_
          · first | exact rfl | go_simp
          · intro W hW
            go_simp
          intro KK hK
          go_simp
          with_reducible refine hK _ ?_
          clear hK KK
          with_reducible refine class_opk (.bool true) ?_ ?_ ?_
          · first | exact rfl | go_simp
          · intro W hW
            go_simp
          intro KK hK
          go_simp
          with_reducible refine hK _ ?_
          clear hK KK
          with_reducible refine class_opk (.bool true) ?_ ?_ ?_
          · first | exact rfl | go_simp
          · intro W hW
            go_simp
          intro KK hK
          go_simp
          with_reducible refine hK _ ?_
          clear hK KK
          with_reducible refine class_opk (.pointer (some ⟨w.heap.size, 2, none⟩)) ?_ ?_ ?_
          · first | exact rfl | go_simp
          · intro W hW
            go_simp
          intro KK hK
          go_simp
          with_reducible refine hK _ ?_
          clear hK KK
          with_reducible refine class_opk (.slice (some ⟨b, o, none⟩) n2 c2) ?_ ?_ ?_
          · first | exact rfl | go_simp
          · intro W hW
            obtain ⟨g0, g1, g2, g3, g4, g5⟩ := HQE.out.keep (B := WQ.heap.size) hq1 hW
            go_simp
          intro KK hK
          go_simp
          with_reducible refine hK _ ?_
          clear hK KK
          with_reducible refine class_opk (.int .i64 (k : Int)) ?_ ?_ ?_
          · first | exact rfl | go_simp
          · intro W hW
            go_simp
          intro KK hK
          go_simp
          with_reducible refine hK _ ?_
          clear hK KK
          with_reducible refine class_opk (.int .i64 ((k : Int) - 1)) ?_ ?_ ?_
          · first | exact rfl | go_simp
          · intro W hW
            go_simp
          intro KK hK
          go_simp
          with_reducible refine hK _ ?_
          clear hK KK
          with_reducible refine class_opk (.pointer (some ⟨b, o + (k - 1) * 9, none⟩)) ?_ ?_ ?_
          · first | exact rfl | go_simp
          · intro W hW
            go_simp
          intro KK hK
          go_simp
          with_reducible refine hK _ ?_
          clear hK KK
          with_reducible refine class_opk (.pointer (some ⟨b, o + (k - 1) * 9, none⟩)) ?_ ?_ ?_
          · first | exact rfl | go_simp
          · intro W hW
            go_simp
          intro KK hK
          go_simp
          with_reducible refine hK _ ?_
          clear hK KK
          with_reducible refine class_opk (.int .i64 u.x.i) ?_ ?_ ?_
          · first | exact rfl | go_simp
          · intro W hW
            obtain ⟨g0, g1, g2, g3, g4, g5, g6, g7, g8⟩ := HU9.out.of_block (hW.block b hbq)
            go_simp
          intro KK hK
          go_simp
          with_reducible refine hK _ ?_
          clear hK KK
          with_reducible refine class_opk (.pointer (some ⟨wr.heap.size, 0, none⟩)) ?_ ?_ ?_
          · first | exact rfl | go_simp
          · intro W hW
            go_simp
          intro KK hK
          go_simp
          with_reducible refine hK _ ?_
          clear hK KK
          with_reducible refine class_opk (.int .i64 t.x.i) ?_ ?_ ?_
          · first | exact rfl | go_simp
          · intro W hW
            obtain ⟨g0, g1, g2, g3, g4, g5, g6, g7, g8⟩ := HQT.out.keep (B := WQ.heap.size) hq2 hW
            go_simp
          intro KK hK
          go_simp
          with_reducible refine hK _ ?_
          clear hK KK
          with_reducible refine class_opk (.bool false) ?_ ?_ ?_
          · first | exact rfl | go_simp
          · intro W hW
            go_simp
          intro KK hK
          go_simp
          with_reducible refine hK _ ?_
          clear hK KK
          with_reducible refine class_opk (.bool false) ?_ ?_ ?_
          · first | exact rfl | go_simp
          · intro W hW
            go_simp
          intro KK hK
          go_simp
          with_reducible refine hK _ ?_
          clear hK KK
          with_reducible refine class_opk (.bool false) ?_ ?_ ?_
          · first | exact rfl | go_simp
          · intro W hW
            go_simp
          intro KK hK
          go_simp
          with_reducible refine hK _ ?_
          clear hK KK
          with_reducible refine class_opk (.bool false) ?_ ?_ ?_
          · first | exact rfl | go_simp
          · intro W hW
            go_simp
          intro KK hK
          go_simp
          with_reducible refine hK _ ?_
          clear hK KK
          with_reducible refine class_opk (.pointer (some ⟨wr.heap.size, 3, none⟩)) ?_ ?_ ?_
          · first | exact rfl | go_simp
          · intro W hW
            go_simp
          intro KK hK
          go_simp
          with_reducible refine hK _ ?_
          clear hK KK
          with_reducible refine class_opk (.int .i64 t.x.b) ?_ ?_ ?_
          · first | exact rfl | go_simp
          · intro W hW
            obtain ⟨g0, g1, g2, g3, g4, g5, g6, g7, g8⟩ := HQT.out.keep (B := WQ.heap.size) hq2 hW
            go_simp
          intro KK hK
          go_simp
          with_reducible refine hK _ ?_
          clear hK KK
          with_reducible refine class_opk (.pointer (some ⟨w.heap.size, 5, none⟩)) ?_ ?_ ?_
          · first | exact rfl | go_simp
          · intro W hW
            go_simp
          intro KK hK
          go_simp
          with_reducible refine hK _ ?_
          clear hK KK
          with_reducible refine class_opk (.int .i64 z) ?_ ?_ ?_
          · first | exact rfl | go_simp
          · intro W hW
            obtain ⟨g0, g1, g2, g3, g4, g5⟩ := HQE.out.keep (B := WQ.heap.size) hq1 hW
            go_simp
          intro KK hK
          go_simp
          with_reducible refine hK _ ?_
          clear hK KK
          with_reducible refine class_opk (.bool false) ?_ ?_ ?_
          · first | exact rfl | go_simp
          · intro W hW
            go_simp
          intro KK hK
          go_simp
          with_reducible refine hK _ ?_
          clear hK KK
          with_reducible refine class_opk (.bool false) ?_ ?_ ?_
          · first | exact rfl | go_simp
          · intro W hW
            go_simp
          intro KK hK
          go_simp
          with_reducible refine hK _ ?_
          clear hK KK
          with_reducible refine class_opk (.bool false) ?_ ?_ ?_
          · first | exact rfl | go_simp
          · intro W hW
            go_simp
          intro KK hK
          go_simp
          with_reducible refine hK _ ?_
          clear hK KK
          with_reducible refine class_opk (.pointer (some ⟨wr.heap.size, 6, none⟩)) ?_ ?_ ?_
          · first | exact rfl | go_simp
          · intro W hW
            go_simp
          intro KK hK
          go_simp
          with_reducible refine hK _ ?_
          clear hK KK
          with_reducible refine class_opk (.int .i64 t.x.c) ?_ ?_ ?_
          · first | exact rfl | go_simp
          · intro W hW
            obtain ⟨g0, g1, g2, g3, g4, g5, g6, g7, g8⟩ := HQT.out.keep (B := WQ.heap.size) hq2 hW
            go_simp
          intro KK hK
          go_simp
          with_reducible refine hK _ ?_
          clear hK KK
          with_reducible refine class_opk (.pointer (some ⟨w.heap.size, 5, none⟩)) ?_ ?_ ?_
          · first | exact rfl | go_simp
          · intro W hW
            go_simp
          intro KK hK
          go_simp
          with_reducible refine hK _ ?_
          clear hK KK
          with_reducible refine class_opk (.int .i64 z) ?_ ?_ ?_
          · first | exact rfl | go_simp
          · intro W hW
            obtain ⟨g0, g1, g2, g3, g4, g5⟩ := HQE.out.keep (B := WQ.heap.size) hq1 hW
            go_simp
          intro KK hK
          go_simp
          with_reducible refine hK _ ?_
          clear hK KK
          with_reducible refine class_opk (.bool false) ?_ ?_ ?_
          · first | exact rfl | go_simp
          · intro W hW
            go_simp
          intro KK hK
          go_simp
          with_reducible refine hK _ ?_
          clear hK KK
          with_reducible refine class_opk (.bool false) ?_ ?_ ?_
          · first | exact rfl | go_simp
          · intro W hW
            go_simp
          intro KK hK
          go_simp
          with_reducible refine hK _ ?_
          clear hK KK
          with_reducible refine class_opk (.bool false) ?_ ?_ ?_
          · first | exact rfl | go_simp
          · intro W hW
            go_simp
          intro KK hK
          go_simp
          with_reducible refine hK _ ?_
          clear hK KK
          with_reducible refine class_opk (.pointer (some ⟨wr.heap.size, 2, none⟩)) ?_ ?_ ?_
          · first | exact rfl | go_simp
          · intro W hW
            go_simp
          intro KK hK
          go_simp
          with_reducible refine hK _ ?_
          clear hK KK
          with_reducible refine class_opk (.int .i64 t.x.t) ?_ ?_ ?_
          · first | exact rfl | go_simp
          · intro W hW
            obtain ⟨g0, g1, g2, g3, g4, g5, g6, g7, g8⟩ := HQT.out.keep (B := WQ.heap.size) hq2 hW
            go_simp
          intro KK hK
          go_simp
          with_reducible refine hK _ ?_
          clear hK KK
          with_reducible refine class_opk (.bool true) ?_ ?_ ?_
          · first | exact rfl | go_simp
          · intro W hW
            go_simp
          intro KK hK
          go_simp
          with_reducible refine hK _ ?_
          clear hK KK
          with_reducible refine class_opk (.bool true) ?_ ?_ ?_
          · first | exact rfl | go_simp
          · intro W hW
            go_simp
          intro KK hK
          go_simp
          with_reducible refine hK _ ?_
          clear hK KK
          with_reducible refine class_opk (.pointer (some ⟨w.heap.size, 1, none⟩)) ?_ ?_ ?_
          · first | exact rfl | go_simp
          · intro W hW
            go_simp
          intro KK hK
          go_simp
          with_reducible refine hK _ ?_
          clear hK KK
          with_reducible refine class_opk (.agg #[.slice A1 n1 c1]) ?_ ?_ ?_
          · first | exact rfl | go_simp
          · intro W hW
            obtain ⟨g0, g1, g2, g3, g4, g5⟩ := HQE.out.keep (B := WQ.heap.size) hq1 hW
            go_simp
          intro KK hK
          go_simp
          with_reducible refine hK _ ?_
          clear hK KK
          with_reducible refine class_opk (.agg #[.int .i64 t.x.i, .int .i64 t.x.s, .int .i64 t.x.t, .int .i64 t.x.b, .int .i64 t.x.l, .int .i64 t.x.h, .int .i64 t.x.c, .slice P1 p1 pc, .slice P2 p2 qc]) ?_ ?_ ?_
          · first | exact rfl | go_simp
          · intro W hW
            obtain ⟨g0, g1, g2, g3, g4, g5, g6, g7, g8⟩ := HQT.out.keep (B := WQ.heap.size) hq2 hW
            go_simp
          intro KK hK
          go_simp
          with_reducible refine hK _ ?_
          clear hK KK
          with_reducible refine class_opk (.bool false) ?_ ?_ ?_
          · first | exact rfl | go_simp
          · intro W hW
            go_simp
            refine class_call hW ?_
            have hc := HRXC.out W hW
            rw [HRX.out] at hc
            exact hc
          intro KK hK
          go_simp
          with_reducible refine hK _ ?_
          clear hK KK
          with_reducible refine class_opk (.bool true) ?_ ?_ ?_
          · first | exact rfl | go_simp
          · intro W hW
            go_simp
          intro KK hK
          go_simp
          with_reducible refine hK _ ?_
          clear hK KK
          with_reducible refine class_opk (.bool true) ?_ ?_ ?_
          · first | exact rfl | go_simp
          · intro W hW
            go_simp
          intro KK hK
          go_simp
          with_reducible refine hK _ ?_
          clear hK KK
          with_reducible refine class_opk (.bool true) ?_ ?_ ?_
          · first | exact rfl | go_simp
          · intro W hW
            go_simp
          intro KK hK
          go_simp
          with_reducible refine hK _ ?_
          clear hK KK
          go_simp
          intro V hV
          have HVB := Lib.hid (HQB.out.trans (hV.mono HQB.out.size))
          have HVW := Lib.hid (HQW.out.trans (hV.mono (by have := HQW.out.size; omega)))
          clear hV
          go_wp2_with fail
          go_ret
          exact ⟨ret_b HV.out.symm, HVB.out⟩
        have HRX := Lib.hid hrx
        have HOK : Hid (okT C z t = true) := Lib.hid (by unfold okT; rw [HTX.out, hbz, hcz, hrx]; simp)
        clear hac hrx
        refine class_region WQ.heap.size (by kernel_rfl) (by kernel_rfl) ?_
        with_reducible refine class_opk (.agg #[.int .i64 t.x.i, .int .i64 t.x.s, .int .i64 t.x.t, .int .i64 t.x.b, .int .i64 t.x.l, .int .i64 t.x.h, .int .i64 t.x.c, .slice P1 p1 pc, .slice P2 p2 qc]) ?_ ?_ ?_
        · first | exact rfl | go_simp
        · intro W hW
          obtain ⟨g0, g1, g2, g3, g4, g5, g6, g7, g8⟩ := HQT.out.keep (B := WQ.heap.size) hq2 hW
          go_simp
        intro KK hK
        go_simp
        with_reducible refine hK _ ?_
        clear hK KK
        with_reducible refine class_opk (.bool true) ?_ ?_ ?_
        · first | exact rfl | go_simp
        · intro W hW
          go_simp
          refine class_call hW ?_
          have hc := HTXC.out W hW
          rw [HTX.out] at hc
          exact hc
        intro KK hK
        go_simp
        with_reducible refine hK _ ?_
        clear hK KK
        with_reducible refine class_opk (.bool false) ?_ ?_ ?_
        · first | exact rfl | go_simp
        · intro W hW
          go_simp
        intro KK hK
        go_simp
        with_reducible refine hK _ ?_
        clear hK KK
        with_reducible refine class_opk (.bool false) ?_ ?_ ?_
        · first | exact rfl | go_simp
        · intro W hW
          go_simp
        intro KK hK
        go_simp
        with_reducible refine hK _ ?_
        clear hK KK
        with_reducible refine class_opk (.int .i64 (k : Int)) ?_ ?_ ?_
        · first | exact rfl | go_simp
        · intro W hW
          go_simp
        intro KK hK
        go_simp
        with_reducible refine hK _ ?_
        clear hK KK
        with_reducible refine class_opk (.bool true) ?_ ?_ ?_
        · first | exact rfl | go_simp
        · intro W hW
          go_simp
        intro KK hK
        go_simp
        with_reducible refine hK _ ?_
        clear hK KK
        with_reducible refine class_opk (.bool true) ?_ ?_ ?_
        · first | exact rfl | go_simp
        · intro W hW
          go_simp
        intro KK hK
        go_simp
        with_reducible refine hK _ ?_
        clear hK KK
        with_reducible refine class_opk (.pointer (some ⟨w.heap.size, 2, none⟩)) ?_ ?_ ?_
        · first | exact rfl | go_simp
        · intro W hW
          go_simp
        intro KK hK
        go_simp
        with_reducible refine hK _ ?_
        clear hK KK
        with_reducible refine class_opk (.slice (some ⟨b, o, none⟩) n2 c2) ?_ ?_ ?_
        · first | exact rfl | go_simp
        · intro W hW
          obtain ⟨g0, g1, g2, g3, g4, g5⟩ := HQE.out.keep (B := WQ.heap.size) hq1 hW
          go_simp
        intro KK hK
        go_simp
        with_reducible refine hK _ ?_
        clear hK KK
        with_reducible refine class_opk (.int .i64 (k : Int)) ?_ ?_ ?_
        · first | exact rfl | go_simp
        · intro W hW
          go_simp
        intro KK hK
        go_simp
        with_reducible refine hK _ ?_
        clear hK KK
        with_reducible refine class_opk (.int .i64 ((k : Int) - 1)) ?_ ?_ ?_
        · first | exact rfl | go_simp
        · intro W hW
          go_simp
        intro KK hK
        go_simp
        with_reducible refine hK _ ?_
        clear hK KK
        with_reducible refine class_opk (.pointer (some ⟨b, o + (k - 1) * 9, none⟩)) ?_ ?_ ?_
        · first | exact rfl | go_simp
        · intro W hW
          go_simp
        intro KK hK
        go_simp
        with_reducible refine hK _ ?_
        clear hK KK
        with_reducible refine class_opk (.pointer (some ⟨b, o + (k - 1) * 9, none⟩)) ?_ ?_ ?_
        · first | exact rfl | go_simp
        · intro W hW
          go_simp
        intro KK hK
        go_simp
        with_reducible refine hK _ ?_
        clear hK KK
        with_reducible refine class_opk (.int .i64 u.x.i) ?_ ?_ ?_
        · first | exact rfl | go_simp
        · intro W hW
          obtain ⟨g0, g1, g2, g3, g4, g5, g6, g7, g8⟩ := HU9.out.of_block (hW.block b hbq)
          go_simp
        intro KK hK
        go_simp
        with_reducible refine hK _ ?_
        clear hK KK
        with_reducible refine class_opk (.pointer (some ⟨wr.heap.size, 0, none⟩)) ?_ ?_ ?_
        · first | exact rfl | go_simp
        · intro W hW
          go_simp
        intro KK hK
        go_simp
        with_reducible refine hK _ ?_
        clear hK KK
        with_reducible refine class_opk (.int .i64 t.x.i) ?_ ?_ ?_
        · first | exact rfl | go_simp
        · intro W hW
          obtain ⟨g0, g1, g2, g3, g4, g5, g6, g7, g8⟩ := HQT.out.keep (B := WQ.heap.size) hq2 hW
          go_simp
        intro KK hK
        go_simp
        with_reducible refine hK _ ?_
        clear hK KK
        with_reducible refine class_opk (.bool false) ?_ ?_ ?_
        · first | exact rfl | go_simp
        · intro W hW
          go_simp
        intro KK hK
        go_simp
        with_reducible refine hK _ ?_
        clear hK KK
        with_reducible refine class_opk (.bool false) ?_ ?_ ?_
        · first | exact rfl | go_simp
        · intro W hW
          go_simp
        intro KK hK
        go_simp
        with_reducible refine hK _ ?_
        clear hK KK
        with_reducible refine class_opk (.bool false) ?_ ?_ ?_
        · first | exact rfl | go_simp
        · intro W hW
          go_simp
        intro KK hK
        go_simp
        with_reducible refine hK _ ?_
        clear hK KK
        with_reducible refine class_opk (.bool false) ?_ ?_ ?_
        · first | exact rfl | go_simp
        · intro W hW
          go_simp
        intro KK hK
        go_simp
        with_reducible refine hK _ ?_
        clear hK KK
        with_reducible refine class_opk (.pointer (some ⟨wr.heap.size, 3, none⟩)) ?_ ?_ ?_
        · first | exact rfl | go_simp
        · intro W hW
          go_simp
        intro KK hK
        go_simp
        with_reducible refine hK _ ?_
        clear hK KK
        with_reducible refine class_opk (.int .i64 t.x.b) ?_ ?_ ?_
        · first | exact rfl | go_simp
        · intro W hW
          obtain ⟨g0, g1, g2, g3, g4, g5, g6, g7, g8⟩ := HQT.out.keep (B := WQ.heap.size) hq2 hW
          go_simp
        intro KK hK
        go_simp
        with_reducible refine hK _ ?_
        clear hK KK
        with_reducible refine class_opk (.pointer (some ⟨w.heap.size, 5, none⟩)) ?_ ?_ ?_
        · first | exact rfl | go_simp
        · intro W hW
          go_simp
        intro KK hK
        go_simp
        with_reducible refine hK _ ?_
        clear hK KK
        with_reducible refine class_opk (.int .i64 z) ?_ ?_ ?_
        · first | exact rfl | go_simp
        · intro W hW
          obtain ⟨g0, g1, g2, g3, g4, g5⟩ := HQE.out.keep (B := WQ.heap.size) hq1 hW
          go_simp
        intro KK hK
        go_simp
        with_reducible refine hK _ ?_
        clear hK KK
        with_reducible refine class_opk (.bool false) ?_ ?_ ?_
        · first | exact rfl | go_simp
        · intro W hW
          go_simp
        intro KK hK
        go_simp
        with_reducible refine hK _ ?_
        clear hK KK
        with_reducible refine class_opk (.bool false) ?_ ?_ ?_
        · first | exact rfl | go_simp
        · intro W hW
          go_simp
        intro KK hK
        go_simp
        with_reducible refine hK _ ?_
        clear hK KK
        with_reducible refine class_opk (.bool false) ?_ ?_ ?_
        · first | exact rfl | go_simp
        · intro W hW
          go_simp
        intro KK hK
        go_simp
        with_reducible refine hK _ ?_
        clear hK KK
        with_reducible refine class_opk (.pointer (some ⟨wr.heap.size, 6, none⟩)) ?_ ?_ ?_
        · first | exact rfl | go_simp
        · intro W hW
          go_simp
        intro KK hK
        go_simp
        with_reducible refine hK _ ?_
        clear hK KK
        with_reducible refine class_opk (.int .i64 t.x.c) ?_ ?_ ?_
        · first | exact rfl | go_simp
        · intro W hW
          obtain ⟨g0, g1, g2, g3, g4, g5, g6, g7, g8⟩ := HQT.out.keep (B := WQ.heap.size) hq2 hW
          go_simp
        intro KK hK
        go_simp
        with_reducible refine hK _ ?_
        clear hK KK
        with_reducible refine class_opk (.pointer (some ⟨w.heap.size, 5, none⟩)) ?_ ?_ ?_
        · first | exact rfl | go_simp
        · intro W hW
          go_simp
        intro KK hK
        go_simp
        with_reducible refine hK _ ?_
        clear hK KK
        with_reducible refine class_opk (.int .i64 z) ?_ ?_ ?_
        · first | exact rfl | go_simp
        · intro W hW
          obtain ⟨g0, g1, g2, g3, g4, g5⟩ := HQE.out.keep (B := WQ.heap.size) hq1 hW
          go_simp
        intro KK hK
        go_simp
        with_reducible refine hK _ ?_
        clear hK KK
        with_reducible refine class_opk (.bool false) ?_ ?_ ?_
        · first | exact rfl | go_simp
        · intro W hW
          go_simp
        intro KK hK
        go_simp
        with_reducible refine hK _ ?_
        clear hK KK
        with_reducible refine class_opk (.bool false) ?_ ?_ ?_
        · first | exact rfl | go_simp
        · intro W hW
          go_simp
        intro KK hK
        go_simp
        with_reducible refine hK _ ?_
        clear hK KK
        with_reducible refine class_opk (.bool false) ?_ ?_ ?_
        · first | exact rfl | go_simp
        · intro W hW
          go_simp
        intro KK hK
        go_simp
        with_reducible refine hK _ ?_
        clear hK KK
        with_reducible refine class_opk (.pointer (some ⟨wr.heap.size, 2, none⟩)) ?_ ?_ ?_
        · first | exact rfl | go_simp
        · intro W hW
          go_simp
        intro KK hK
        go_simp
        with_reducible refine hK _ ?_
        clear hK KK
        with_reducible refine class_opk (.int .i64 t.x.t) ?_ ?_ ?_
        · first | exact rfl | go_simp
        · intro W hW
          obtain ⟨g0, g1, g2, g3, g4, g5, g6, g7, g8⟩ := HQT.out.keep (B := WQ.heap.size) hq2 hW
          go_simp
        intro KK hK
        go_simp
        with_reducible refine hK _ ?_
        clear hK KK
        with_reducible refine class_opk (.bool true) ?_ ?_ ?_
        · first | exact rfl | go_simp
        · intro W hW
          go_simp
        intro KK hK
        go_simp
        with_reducible refine hK _ ?_
        clear hK KK
        with_reducible refine class_opk (.bool true) ?_ ?_ ?_
        · first | exact rfl | go_simp
        · intro W hW
          go_simp
        intro KK hK
        go_simp
        with_reducible refine hK _ ?_
        clear hK KK
        with_reducible refine class_opk (.pointer (some ⟨w.heap.size, 1, none⟩)) ?_ ?_ ?_
        · first | exact rfl | go_simp
        · intro W hW
          go_simp
        intro KK hK
        go_simp
        with_reducible refine hK _ ?_
        clear hK KK
        with_reducible refine class_opk (.agg #[.slice A1 n1 c1]) ?_ ?_ ?_
        · first | exact rfl | go_simp
        · intro W hW
          obtain ⟨g0, g1, g2, g3, g4, g5⟩ := HQE.out.keep (B := WQ.heap.size) hq1 hW
          go_simp
        intro KK hK
        go_simp
        with_reducible refine hK _ ?_
        clear hK KK
        with_reducible refine class_opk (.agg #[.int .i64 t.x.i, .int .i64 t.x.s, .int .i64 t.x.t, .int .i64 t.x.b, .int .i64 t.x.l, .int .i64 t.x.h, .int .i64 t.x.c, .slice P1 p1 pc, .slice P2 p2 qc]) ?_ ?_ ?_
        · first | exact rfl | go_simp
        · intro W hW
          obtain ⟨g0, g1, g2, g3, g4, g5, g6, g7, g8⟩ := HQT.out.keep (B := WQ.heap.size) hq2 hW
          go_simp
        intro KK hK
        go_simp
        with_reducible refine hK _ ?_
        clear hK KK
        with_reducible refine class_opk (.bool true) ?_ ?_ ?_
        · first | exact rfl | go_simp
        · intro W hW
          go_simp
          refine class_call hW ?_
          have hc := HRXC.out W hW
          rw [HRX.out] at hc
          exact hc
        intro KK hK
        go_simp
        with_reducible refine hK _ ?_
        clear hK KK
        with_reducible refine class_opk (.bool false) ?_ ?_ ?_
        · first | exact rfl | go_simp
        · intro W hW
          go_simp
        intro KK hK
        go_simp
        with_reducible refine hK _ ?_
        clear hK KK
        with_reducible refine class_opk (.bool false) ?_ ?_ ?_
        · first | exact rfl | go_simp
        · intro W hW
          go_simp
        intro KK hK
        go_simp
        with_reducible refine hK _ ?_
        clear hK KK
        with_reducible refine class_opk (.bool false) ?_ ?_ ?_
        · first | exact rfl | go_simp
        · intro W hW
          go_simp
        intro KK hK
        go_simp
        with_reducible refine hK _ ?_
        clear hK KK
        go_simp
        intro V hV
        have HVB := Lib.hid (HQB.out.trans (hV.mono HQB.out.size))
        have HVW := Lib.hid (HQW.out.trans (hV.mono (by have := HQW.out.size; omega)))
        clear hV
        go_wp2_with fail
        go_roundw
        case rel => exact ⟨k + 1, by omega, by go_num, pri_step HP.out HX.out (HOK.out) HFOL.out, HVW.out⟩
        case measure => simp [intOf]; omega
      · have tk0 : decide ((0 : Int) < (k : Int)) = false := decide_eq_false (by omega)
        have HFOL : Hid (0 < k → ∀ y, L[k - 1]? = some y → folT y t = true) := Lib.hid fun h => absurd h h0
        rcases htb2 : decide (z < t.x.b) with _ | _
        case true =>
          have HV : Hid (enB ⟨q, C, L, K, X, z⟩ = false) := Lib.hid (by rw [HEN2.out, show sqB (okT C z) folT L = false from sq_bad HX.out (by unfold okT; rw [show decide (t.x.b ≤ z) = false from decide_eq_false (by have := of_decide_eq_true htb2; omega)]; simp)]; rfl)
          refine class_region WQ.heap.size (by kernel_rfl) (by kernel_rfl) ?_
          with_reducible refine class_opk (.agg #[.int .i64 t.x.i, .int .i64 t.x.s, .int .i64 t.x.t, .int .i64 t.x.b, .int .i64 t.x.l, .int .i64 t.x.h, .int .i64 t.x.c, .slice P1 p1 pc, .slice P2 p2 qc]) ?_ ?_ ?_
          · first | exact rfl | go_simp
          · intro W hW
            obtain ⟨g0, g1, g2, g3, g4, g5, g6, g7, g8⟩ := HQT.out.keep (B := WQ.heap.size) hq2 hW
            go_simp
          intro KK hK
          go_simp
          with_reducible refine hK _ ?_
          clear hK KK
          with_reducible refine class_opk (.bool true) ?_ ?_ ?_
          · first | exact rfl | go_simp
          · intro W hW
            go_simp
            refine class_call hW ?_
            have hc := HTXC.out W hW
            rw [HTX.out] at hc
            exact hc
          intro KK hK
          go_simp
          with_reducible refine hK _ ?_
          clear hK KK
          with_reducible refine class_opk (.bool false) ?_ ?_ ?_
          · first | exact rfl | go_simp
          · intro W hW
            go_simp
          intro KK hK
          go_simp
          with_reducible refine hK _ ?_
          clear hK KK
          with_reducible refine class_opk (.bool false) ?_ ?_ ?_
          · first | exact rfl | go_simp
          · intro W hW
            go_simp
          intro KK hK
          go_simp
          with_reducible refine hK _ ?_
          clear hK KK
          with_reducible refine class_opk (.int .i64 (k : Int)) ?_ ?_ ?_
          · first | exact rfl | go_simp
          · intro W hW
            go_simp
          intro KK hK
          go_simp
          with_reducible refine hK _ ?_
          clear hK KK
          with_reducible refine class_opk (.bool false) ?_ ?_ ?_
          · first | exact rfl | go_simp
          · intro W hW
            go_simp
          intro KK hK
          go_simp
          with_reducible refine hK _ ?_
          clear hK KK
          with_reducible refine class_opk (.bool false) ?_ ?_ ?_
          · first | exact rfl | go_simp
          · intro W hW
            go_simp
          intro KK hK
          go_simp
          with_reducible refine hK _ ?_
          clear hK KK
          with_reducible refine class_skipk ?_ ?_
          · first | exact rfl | (go_simp; try simp [undef])
          intro KK hK
          go_simp
          with_reducible refine hK _ ?_
          clear hK KK
          with_reducible refine class_skipk ?_ ?_
          · first | exact rfl | (go_simp; try simp [undef])
          intro KK hK
          go_simp
          with_reducible refine hK _ ?_
          clear hK KK
          with_reducible refine class_skipk ?_ ?_
          · first | exact rfl | (go_simp; try simp [undef])
          intro KK hK
          go_simp
          with_reducible refine hK _ ?_
          clear hK KK
          with_reducible refine class_skipk ?_ ?_
          · first | exact rfl | (go_simp; try simp [undef])
          intro KK hK
          go_simp
          with_reducible refine hK _ ?_
          clear hK KK
          with_reducible refine class_skipk ?_ ?_
          · first | exact rfl | (go_simp; try simp [undef])
          intro KK hK
          go_simp
          with_reducible refine hK _ ?_
          clear hK KK
          with_reducible refine class_skipk ?_ ?_
          · first | exact rfl | (go_simp; try simp [undef])
          intro KK hK
          go_simp
          with_reducible refine hK _ ?_
          clear hK KK
          with_reducible refine class_skipk ?_ ?_
          · first | exact rfl | (go_simp; try simp [undef])
          intro KK hK
          go_simp
          with_reducible refine hK _ ?_
          clear hK KK
          with_reducible refine class_skipk ?_ ?_
          · first | exact rfl | (go_simp; try simp [undef])
          intro KK hK
          go_simp
          with_reducible refine hK _ ?_
          clear hK KK
          with_reducible refine class_skipk ?_ ?_
          · first | exact rfl | (go_simp; try simp [undef])
          intro KK hK
          go_simp
          with_reducible refine hK _ ?_
          clear hK KK
          with_reducible refine class_skipk ?_ ?_
          · first | exact rfl | (go_simp; try simp [undef])
          intro KK hK
          go_simp
          with_reducible refine hK _ ?_
          clear hK KK
          with_reducible refine class_opk (.bool false) ?_ ?_ ?_
          · first | exact rfl | go_simp
          · intro W hW
            go_simp
          intro KK hK
          go_simp
          with_reducible refine hK _ ?_
          clear hK KK
          with_reducible refine class_opk (.bool false) ?_ ?_ ?_
          · first | exact rfl | go_simp
          · intro W hW
            go_simp
          intro KK hK
          go_simp
          with_reducible refine hK _ ?_
          clear hK KK
          with_reducible refine class_opk (.bool false) ?_ ?_ ?_
          · first | exact rfl | go_simp
          · intro W hW
            go_simp
          intro KK hK
          go_simp
          with_reducible refine hK _ ?_
          clear hK KK
          with_reducible refine class_opk (.pointer (some ⟨wr.heap.size, 3, none⟩)) ?_ ?_ ?_
          · first | exact rfl | go_simp
          · intro W hW
            go_simp
          intro KK hK
          go_simp
          with_reducible refine hK _ ?_
          clear hK KK
          with_reducible refine class_opk (.int .i64 t.x.b) ?_ ?_ ?_
          · first | exact rfl | go_simp
          · intro W hW
            obtain ⟨g0, g1, g2, g3, g4, g5, g6, g7, g8⟩ := HQT.out.keep (B := WQ.heap.size) hq2 hW
            go_simp
          intro KK hK
          go_simp
          with_reducible refine hK _ ?_
          clear hK KK
          with_reducible refine class_opk (.pointer (some ⟨w.heap.size, 5, none⟩)) ?_ ?_ ?_
          · first | exact rfl | go_simp
          · intro W hW
            go_simp
          intro KK hK
          go_simp
          with_reducible refine hK _ ?_
          clear hK KK
          with_reducible refine class_opk (.int .i64 z) ?_ ?_ ?_
          · first | exact rfl | go_simp
          · intro W hW
            obtain ⟨g0, g1, g2, g3, g4, g5⟩ := HQE.out.keep (B := WQ.heap.size) hq1 hW
            go_simp
          intro KK hK
          go_simp
          with_reducible refine hK _ ?_
          clear hK KK
          with_reducible refine class_opk (.bool true) ?_ ?_ ?_
          · first | exact rfl | go_simp
          · intro W hW
            go_simp
          intro KK hK
          go_simp
          with_reducible refine hK _ ?_
          clear hK KK
          with_reducible refine class_opk (.bool true) ?_ ?_ ?_
          · first | exact rfl | go_simp
          · intro W hW
            go_simp
          intro KK hK
          go_simp
          with_reducible refine hK _ ?_
          clear hK KK
          with_reducible refine class_opk (.bool true) ?_ ?_ ?_
          · first | exact rfl | go_simp
          · intro W hW
            go_simp
          intro KK hK
          go_simp
          with_reducible refine hK _ ?_
          clear hK KK
          with_reducible refine class_skipk ?_ ?_
          · first | exact rfl | (go_simp; try simp [undef])
          intro KK hK
          go_simp
          with_reducible refine hK _ ?_
          clear hK KK
          with_reducible refine class_skipk ?_ ?_
          · first | exact rfl | (go_simp; try simp [undef])
          intro KK hK
          go_simp
          with_reducible refine hK _ ?_
          clear hK KK
          with_reducible refine class_skipk ?_ ?_
          · first | exact rfl | (go_simp; try simp [undef])
          intro KK hK
          go_simp
          with_reducible refine hK _ ?_
          clear hK KK
          with_reducible refine class_skipk ?_ ?_
          · first | exact rfl | (go_simp; try simp [undef])
          intro KK hK
          go_simp
          with_reducible refine hK _ ?_
          clear hK KK
          with_reducible refine class_skipk ?_ ?_
          · first | exact rfl | (go_simp; try simp [undef])
          intro KK hK
          go_simp
          with_reducible refine hK _ ?_
          clear hK KK
          with_reducible refine class_opk (.bool true) ?_ ?_ ?_
          · first | exact rfl | go_simp
          · intro W hW
            go_simp
          intro KK hK
          go_simp
          with_reducible refine hK _ ?_
          clear hK KK
          with_reducible refine class_opk (.bool true) ?_ ?_ ?_
          · first | exact rfl | go_simp
          · intro W hW
            go_simp
          intro KK hK
          go_simp
          with_reducible refine hK _ ?_
          clear hK KK
          with_reducible refine class_skipk ?_ ?_
          · first | exact rfl | (go_simp; try simp [undef])
          intro KK hK
          go_simp
          with_reducible refine hK _ ?_
          clear hK KK
          with_reducible refine class_skipk ?_ ?_
          · first | exact rfl | (go_simp; try simp [undef])
          intro KK hK
          go_simp
          with_reducible refine hK _ ?_
          clear hK KK
          with_reducible refine class_skipk ?_ ?_
          · first | exact rfl | (go_simp; try simp [undef])
          intro KK hK
          go_simp
          with_reducible refine hK _ ?_
          clear hK KK
          with_reducible refine class_skipk ?_ ?_
          · first | exact rfl | (go_simp; try simp [undef])
          intro KK hK
          go_simp
          with_reducible refine hK _ ?_
          clear hK KK
          with_reducible refine class_skipk ?_ ?_
          · first | exact rfl | (go_simp; try simp [undef])
          intro KK hK
          go_simp
          with_reducible refine hK _ ?_
          clear hK KK
          with_reducible refine class_skipk ?_ ?_
          · first | exact rfl | (go_simp; try simp [undef])
          intro KK hK
          go_simp
          with_reducible refine hK _ ?_
          clear hK KK
          with_reducible refine class_skipk ?_ ?_
          · first | exact rfl | (go_simp; try simp [undef])
          intro KK hK
          go_simp
          with_reducible refine hK _ ?_
          clear hK KK
          with_reducible refine class_skipk ?_ ?_
          · first | exact rfl | (go_simp; try simp [undef])
          intro KK hK
          go_simp
          with_reducible refine hK _ ?_
          clear hK KK
          with_reducible refine class_skipk ?_ ?_
          · first | exact rfl | (go_simp; try simp [undef])
          intro KK hK
          go_simp
          with_reducible refine hK _ ?_
          clear hK KK
          with_reducible refine class_skipk ?_ ?_
          · first | exact rfl | (go_simp; try simp [undef])
          intro KK hK
          go_simp
          with_reducible refine hK _ ?_
          clear hK KK
          with_reducible refine class_opk (.bool true) ?_ ?_ ?_
          · first | exact rfl | go_simp
          · intro W hW
            go_simp
          intro KK hK
          go_simp
          with_reducible refine hK _ ?_
          clear hK KK
          go_simp
          intro V hV
          have HVB := Lib.hid (HQB.out.trans (hV.mono HQB.out.size))
          have HVW := Lib.hid (HQW.out.trans (hV.mono (by have := HQW.out.size; omega)))
          clear hV
          go_wp2_with fail
          go_ret
          exact ⟨ret_b HV.out.symm, HVB.out⟩
        rcases htc2 : decide (z < t.x.c) with _ | _
        case true =>
          have HV : Hid (enB ⟨q, C, L, K, X, z⟩ = false) := Lib.hid (by rw [HEN2.out, show sqB (okT C z) folT L = false from sq_bad HX.out (by unfold okT; rw [show decide (t.x.c ≤ z) = false from decide_eq_false (by have := of_decide_eq_true htc2; omega)]; simp)]; rfl)
          refine class_region WQ.heap.size (by kernel_rfl) (by kernel_rfl) ?_
          with_reducible refine class_opk (.agg #[.int .i64 t.x.i, .int .i64 t.x.s, .int .i64 t.x.t, .int .i64 t.x.b, .int .i64 t.x.l, .int .i64 t.x.h, .int .i64 t.x.c, .slice P1 p1 pc, .slice P2 p2 qc]) ?_ ?_ ?_
          · first | exact rfl | go_simp
          · intro W hW
            obtain ⟨g0, g1, g2, g3, g4, g5, g6, g7, g8⟩ := HQT.out.keep (B := WQ.heap.size) hq2 hW
            go_simp
          intro KK hK
          go_simp
          with_reducible refine hK _ ?_
          clear hK KK
          with_reducible refine class_opk (.bool true) ?_ ?_ ?_
          · first | exact rfl | go_simp
          · intro W hW
            go_simp
            refine class_call hW ?_
            have hc := HTXC.out W hW
            rw [HTX.out] at hc
            exact hc
          intro KK hK
          go_simp
          with_reducible refine hK _ ?_
          clear hK KK
          with_reducible refine class_opk (.bool false) ?_ ?_ ?_
          · first | exact rfl | go_simp
          · intro W hW
            go_simp
          intro KK hK
          go_simp
          with_reducible refine hK _ ?_
          clear hK KK
          with_reducible refine class_opk (.bool false) ?_ ?_ ?_
          · first | exact rfl | go_simp
          · intro W hW
            go_simp
          intro KK hK
          go_simp
          with_reducible refine hK _ ?_
          clear hK KK
          with_reducible refine class_opk (.int .i64 (k : Int)) ?_ ?_ ?_
          · first | exact rfl | go_simp
          · intro W hW
            go_simp
          intro KK hK
          go_simp
          with_reducible refine hK _ ?_
          clear hK KK
          with_reducible refine class_opk (.bool false) ?_ ?_ ?_
          · first | exact rfl | go_simp
          · intro W hW
            go_simp
          intro KK hK
          go_simp
          with_reducible refine hK _ ?_
          clear hK KK
          with_reducible refine class_opk (.bool false) ?_ ?_ ?_
          · first | exact rfl | go_simp
          · intro W hW
            go_simp
          intro KK hK
          go_simp
          with_reducible refine hK _ ?_
          clear hK KK
          with_reducible refine class_skipk ?_ ?_
          · first | exact rfl | (go_simp; try simp [undef])
          intro KK hK
          go_simp
          with_reducible refine hK _ ?_
          clear hK KK
          with_reducible refine class_skipk ?_ ?_
          · first | exact rfl | (go_simp; try simp [undef])
          intro KK hK
          go_simp
          with_reducible refine hK _ ?_
          clear hK KK
          with_reducible refine class_skipk ?_ ?_
          · first | exact rfl | (go_simp; try simp [undef])
          intro KK hK
          go_simp
          with_reducible refine hK _ ?_
          clear hK KK
          with_reducible refine class_skipk ?_ ?_
          · first | exact rfl | (go_simp; try simp [undef])
          intro KK hK
          go_simp
          with_reducible refine hK _ ?_
          clear hK KK
          with_reducible refine class_skipk ?_ ?_
          · first | exact rfl | (go_simp; try simp [undef])
          intro KK hK
          go_simp
          with_reducible refine hK _ ?_
          clear hK KK
          with_reducible refine class_skipk ?_ ?_
          · first | exact rfl | (go_simp; try simp [undef])
          intro KK hK
          go_simp
          with_reducible refine hK _ ?_
          clear hK KK
          with_reducible refine class_skipk ?_ ?_
          · first | exact rfl | (go_simp; try simp [undef])
          intro KK hK
          go_simp
          with_reducible refine hK _ ?_
          clear hK KK
          with_reducible refine class_skipk ?_ ?_
          · first | exact rfl | (go_simp; try simp [undef])
          intro KK hK
          go_simp
          with_reducible refine hK _ ?_
          clear hK KK
          with_reducible refine class_skipk ?_ ?_
          · first | exact rfl | (go_simp; try simp [undef])
          intro KK hK
          go_simp
          with_reducible refine hK _ ?_
          clear hK KK
          with_reducible refine class_skipk ?_ ?_
          · first | exact rfl | (go_simp; try simp [undef])
          intro KK hK
          go_simp
          with_reducible refine hK _ ?_
          clear hK KK
          with_reducible refine class_opk (.bool false) ?_ ?_ ?_
          · first | exact rfl | go_simp
          · intro W hW
            go_simp
          intro KK hK
          go_simp
          with_reducible refine hK _ ?_
          clear hK KK
          with_reducible refine class_opk (.bool false) ?_ ?_ ?_
          · first | exact rfl | go_simp
          · intro W hW
            go_simp
          intro KK hK
          go_simp
          with_reducible refine hK _ ?_
          clear hK KK
          with_reducible refine class_opk (.bool false) ?_ ?_ ?_
          · first | exact rfl | go_simp
          · intro W hW
            go_simp
          intro KK hK
          go_simp
          with_reducible refine hK _ ?_
          clear hK KK
          with_reducible refine class_opk (.pointer (some ⟨wr.heap.size, 3, none⟩)) ?_ ?_ ?_
          · first | exact rfl | go_simp
          · intro W hW
            go_simp
          intro KK hK
          go_simp
          with_reducible refine hK _ ?_
          clear hK KK
          with_reducible refine class_opk (.int .i64 t.x.b) ?_ ?_ ?_
          · first | exact rfl | go_simp
          · intro W hW
            obtain ⟨g0, g1, g2, g3, g4, g5, g6, g7, g8⟩ := HQT.out.keep (B := WQ.heap.size) hq2 hW
            go_simp
          intro KK hK
          go_simp
          with_reducible refine hK _ ?_
          clear hK KK
          with_reducible refine class_opk (.pointer (some ⟨w.heap.size, 5, none⟩)) ?_ ?_ ?_
          · first | exact rfl | go_simp
          · intro W hW
            go_simp
          intro KK hK
          go_simp
          with_reducible refine hK _ ?_
          clear hK KK
          with_reducible refine class_opk (.int .i64 z) ?_ ?_ ?_
          · first | exact rfl | go_simp
          · intro W hW
            obtain ⟨g0, g1, g2, g3, g4, g5⟩ := HQE.out.keep (B := WQ.heap.size) hq1 hW
            go_simp
          intro KK hK
          go_simp
          with_reducible refine hK _ ?_
          clear hK KK
          with_reducible refine class_opk (.bool false) ?_ ?_ ?_
          · first | exact rfl | go_simp
          · intro W hW
            go_simp
          intro KK hK
          go_simp
          with_reducible refine hK _ ?_
          clear hK KK
          with_reducible refine class_opk (.bool false) ?_ ?_ ?_
          · first | exact rfl | go_simp
          · intro W hW
            go_simp
          intro KK hK
          go_simp
          with_reducible refine hK _ ?_
          clear hK KK
          with_reducible refine class_opk (.bool false) ?_ ?_ ?_
          · first | exact rfl | go_simp
          · intro W hW
            go_simp
          intro KK hK
          go_simp
          with_reducible refine hK _ ?_
          clear hK KK
          with_reducible refine class_opk (.pointer (some ⟨wr.heap.size, 6, none⟩)) ?_ ?_ ?_
          · first | exact rfl | go_simp
          · intro W hW
            go_simp
          intro KK hK
          go_simp
          with_reducible refine hK _ ?_
          clear hK KK
          with_reducible refine class_opk (.int .i64 t.x.c) ?_ ?_ ?_
          · first | exact rfl | go_simp
          · intro W hW
            obtain ⟨g0, g1, g2, g3, g4, g5, g6, g7, g8⟩ := HQT.out.keep (B := WQ.heap.size) hq2 hW
            go_simp
          intro KK hK
          go_simp
          with_reducible refine hK _ ?_
          clear hK KK
          with_reducible refine class_opk (.pointer (some ⟨w.heap.size, 5, none⟩)) ?_ ?_ ?_
          · first | exact rfl | go_simp
          · intro W hW
            go_simp
          intro KK hK
          go_simp
          with_reducible refine hK _ ?_
          clear hK KK
          with_reducible refine class_opk (.int .i64 z) ?_ ?_ ?_
          · first | exact rfl | go_simp
          · intro W hW
            obtain ⟨g0, g1, g2, g3, g4, g5⟩ := HQE.out.keep (B := WQ.heap.size) hq1 hW
            go_simp
          intro KK hK
          go_simp
          with_reducible refine hK _ ?_
          clear hK KK
          with_reducible refine class_opk (.bool true) ?_ ?_ ?_
          · first | exact rfl | go_simp
          · intro W hW
            go_simp
          intro KK hK
          go_simp
          with_reducible refine hK _ ?_
          clear hK KK
          with_reducible refine class_opk (.bool true) ?_ ?_ ?_
          · first | exact rfl | go_simp
          · intro W hW
            go_simp
          intro KK hK
          go_simp
          with_reducible refine hK _ ?_
          clear hK KK
          with_reducible refine class_opk (.bool true) ?_ ?_ ?_
          · first | exact rfl | go_simp
          · intro W hW
            go_simp
          intro KK hK
          go_simp
          with_reducible refine hK _ ?_
          clear hK KK
          with_reducible refine class_skipk ?_ ?_
          · first | exact rfl | (go_simp; try simp [undef])
          intro KK hK
          go_simp
          with_reducible refine hK _ ?_
          clear hK KK
          with_reducible refine class_skipk ?_ ?_
          · first | exact rfl | (go_simp; try simp [undef])
          intro KK hK
          go_simp
          with_reducible refine hK _ ?_
          clear hK KK
          with_reducible refine class_skipk ?_ ?_
          · first | exact rfl | (go_simp; try simp [undef])
          intro KK hK
          go_simp
          with_reducible refine hK _ ?_
          clear hK KK
          with_reducible refine class_skipk ?_ ?_
          · first | exact rfl | (go_simp; try simp [undef])
          intro KK hK
          go_simp
          with_reducible refine hK _ ?_
          clear hK KK
          with_reducible refine class_skipk ?_ ?_
          · first | exact rfl | (go_simp; try simp [undef])
          intro KK hK
          go_simp
          with_reducible refine hK _ ?_
          clear hK KK
          with_reducible refine class_skipk ?_ ?_
          · first | exact rfl | (go_simp; try simp [undef])
          intro KK hK
          go_simp
          with_reducible refine hK _ ?_
          clear hK KK
          with_reducible refine class_skipk ?_ ?_
          · first | exact rfl | (go_simp; try simp [undef])
          intro KK hK
          go_simp
          with_reducible refine hK _ ?_
          clear hK KK
          with_reducible refine class_skipk ?_ ?_
          · first | exact rfl | (go_simp; try simp [undef])
          intro KK hK
          go_simp
          with_reducible refine hK _ ?_
          clear hK KK
          with_reducible refine class_skipk ?_ ?_
          · first | exact rfl | (go_simp; try simp [undef])
          intro KK hK
          go_simp
          with_reducible refine hK _ ?_
          clear hK KK
          with_reducible refine class_skipk ?_ ?_
          · first | exact rfl | (go_simp; try simp [undef])
          intro KK hK
          go_simp
          with_reducible refine hK _ ?_
          clear hK KK
          with_reducible refine class_opk (.bool true) ?_ ?_ ?_
          · first | exact rfl | go_simp
          · intro W hW
            go_simp
          intro KK hK
          go_simp
          with_reducible refine hK _ ?_
          clear hK KK
          go_simp
          intro V hV
          have HVB := Lib.hid (HQB.out.trans (hV.mono HQB.out.size))
          have HVW := Lib.hid (HQW.out.trans (hV.mono (by have := HQW.out.size; omega)))
          clear hV
          go_wp2_with fail
          go_ret
          exact ⟨ret_b HV.out.symm, HVB.out⟩
        have hbz : decide (t.x.b ≤ z) = true := decide_eq_true (by have := of_decide_eq_false htb2; omega)
        have hcz : decide (t.x.c ≤ z) = true := decide_eq_true (by have := of_decide_eq_false htc2; omega)
        by_cases hac : t.x.t = 1
        case neg =>
          have tac : (t.x.t == 1) = false := by simpa using hac
          have HOK : Hid (okT C z t = true) := Lib.hid (by unfold okT; rw [HTX.out, hbz, hcz, decide_eq_false hac]; rfl)
          clear hac
          refine class_region WQ.heap.size (by kernel_rfl) (by kernel_rfl) ?_
          with_reducible refine class_opk (.agg #[.int .i64 t.x.i, .int .i64 t.x.s, .int .i64 t.x.t, .int .i64 t.x.b, .int .i64 t.x.l, .int .i64 t.x.h, .int .i64 t.x.c, .slice P1 p1 pc, .slice P2 p2 qc]) ?_ ?_ ?_
          · first | exact rfl | go_simp
          · intro W hW
            obtain ⟨g0, g1, g2, g3, g4, g5, g6, g7, g8⟩ := HQT.out.keep (B := WQ.heap.size) hq2 hW
            go_simp
          intro KK hK
          go_simp
          with_reducible refine hK _ ?_
          clear hK KK
          with_reducible refine class_opk (.bool true) ?_ ?_ ?_
          · first | exact rfl | go_simp
          · intro W hW
            go_simp
            refine class_call hW ?_
            have hc := HTXC.out W hW
            rw [HTX.out] at hc
            exact hc
          intro KK hK
          go_simp
          with_reducible refine hK _ ?_
          clear hK KK
          with_reducible refine class_opk (.bool false) ?_ ?_ ?_
          · first | exact rfl | go_simp
          · intro W hW
            go_simp
          intro KK hK
          go_simp
          with_reducible refine hK _ ?_
          clear hK KK
          with_reducible refine class_opk (.bool false) ?_ ?_ ?_
          · first | exact rfl | go_simp
          · intro W hW
            go_simp
          intro KK hK
          go_simp
          with_reducible refine hK _ ?_
          clear hK KK
          with_reducible refine class_opk (.int .i64 (k : Int)) ?_ ?_ ?_
          · first | exact rfl | go_simp
          · intro W hW
            go_simp
          intro KK hK
          go_simp
          with_reducible refine hK _ ?_
          clear hK KK
          with_reducible refine class_opk (.bool false) ?_ ?_ ?_
          · first | exact rfl | go_simp
          · intro W hW
            go_simp
          intro KK hK
          go_simp
          with_reducible refine hK _ ?_
          clear hK KK
          with_reducible refine class_opk (.bool false) ?_ ?_ ?_
          · first | exact rfl | go_simp
          · intro W hW
            go_simp
          intro KK hK
          go_simp
          with_reducible refine hK _ ?_
          clear hK KK
          with_reducible refine class_skipk ?_ ?_
          · first | exact rfl | (go_simp; try simp [undef])
          intro KK hK
          go_simp
          with_reducible refine hK _ ?_
          clear hK KK
          with_reducible refine class_skipk ?_ ?_
          · first | exact rfl | (go_simp; try simp [undef])
          intro KK hK
          go_simp
          with_reducible refine hK _ ?_
          clear hK KK
          with_reducible refine class_skipk ?_ ?_
          · first | exact rfl | (go_simp; try simp [undef])
          intro KK hK
          go_simp
          with_reducible refine hK _ ?_
          clear hK KK
          with_reducible refine class_skipk ?_ ?_
          · first | exact rfl | (go_simp; try simp [undef])
          intro KK hK
          go_simp
          with_reducible refine hK _ ?_
          clear hK KK
          with_reducible refine class_skipk ?_ ?_
          · first | exact rfl | (go_simp; try simp [undef])
          intro KK hK
          go_simp
          with_reducible refine hK _ ?_
          clear hK KK
          with_reducible refine class_skipk ?_ ?_
          · first | exact rfl | (go_simp; try simp [undef])
          intro KK hK
          go_simp
          with_reducible refine hK _ ?_
          clear hK KK
          with_reducible refine class_skipk ?_ ?_
          · first | exact rfl | (go_simp; try simp [undef])
          intro KK hK
          go_simp
          with_reducible refine hK _ ?_
          clear hK KK
          with_reducible refine class_skipk ?_ ?_
          · first | exact rfl | (go_simp; try simp [undef])
          intro KK hK
          go_simp
          with_reducible refine hK _ ?_
          clear hK KK
          with_reducible refine class_skipk ?_ ?_
          · first | exact rfl | (go_simp; try simp [undef])
          intro KK hK
          go_simp
          with_reducible refine hK _ ?_
          clear hK KK
          with_reducible refine class_skipk ?_ ?_
          · first | exact rfl | (go_simp; try simp [undef])
          intro KK hK
          go_simp
          with_reducible refine hK _ ?_
          clear hK KK
          with_reducible refine class_opk (.bool false) ?_ ?_ ?_
          · first | exact rfl | go_simp
          · intro W hW
            go_simp
          intro KK hK
          go_simp
          with_reducible refine hK _ ?_
          clear hK KK
          with_reducible refine class_opk (.bool false) ?_ ?_ ?_
          · first | exact rfl | go_simp
          · intro W hW
            go_simp
          intro KK hK
          go_simp
          with_reducible refine hK _ ?_
          clear hK KK
          with_reducible refine class_opk (.bool false) ?_ ?_ ?_
          · first | exact rfl | go_simp
          · intro W hW
            go_simp
          intro KK hK
          go_simp
          with_reducible refine hK _ ?_
          clear hK KK
          with_reducible refine class_opk (.pointer (some ⟨wr.heap.size, 3, none⟩)) ?_ ?_ ?_
          · first | exact rfl | go_simp
          · intro W hW
            go_simp
          intro KK hK
          go_simp
          with_reducible refine hK _ ?_
          clear hK KK
          with_reducible refine class_opk (.int .i64 t.x.b) ?_ ?_ ?_
          · first | exact rfl | go_simp
          · intro W hW
            obtain ⟨g0, g1, g2, g3, g4, g5, g6, g7, g8⟩ := HQT.out.keep (B := WQ.heap.size) hq2 hW
            go_simp
          intro KK hK
          go_simp
          with_reducible refine hK _ ?_
          clear hK KK
          with_reducible refine class_opk (.pointer (some ⟨w.heap.size, 5, none⟩)) ?_ ?_ ?_
          · first | exact rfl | go_simp
          · intro W hW
            go_simp
          intro KK hK
          go_simp
          with_reducible refine hK _ ?_
          clear hK KK
          with_reducible refine class_opk (.int .i64 z) ?_ ?_ ?_
          · first | exact rfl | go_simp
          · intro W hW
            obtain ⟨g0, g1, g2, g3, g4, g5⟩ := HQE.out.keep (B := WQ.heap.size) hq1 hW
            go_simp
          intro KK hK
          go_simp
          with_reducible refine hK _ ?_
          clear hK KK
          with_reducible refine class_opk (.bool false) ?_ ?_ ?_
          · first | exact rfl | go_simp
          · intro W hW
            go_simp
          intro KK hK
          go_simp
          with_reducible refine hK _ ?_
          clear hK KK
          with_reducible refine class_opk (.bool false) ?_ ?_ ?_
          · first | exact rfl | go_simp
          · intro W hW
            go_simp
          intro KK hK
          go_simp
          with_reducible refine hK _ ?_
          clear hK KK
          with_reducible refine class_opk (.bool false) ?_ ?_ ?_
          · first | exact rfl | go_simp
          · intro W hW
            go_simp
          intro KK hK
          go_simp
          with_reducible refine hK _ ?_
          clear hK KK
          with_reducible refine class_opk (.pointer (some ⟨wr.heap.size, 6, none⟩)) ?_ ?_ ?_
          · first | exact rfl | go_simp
          · intro W hW
            go_simp
          intro KK hK
          go_simp
          with_reducible refine hK _ ?_
          clear hK KK
          with_reducible refine class_opk (.int .i64 t.x.c) ?_ ?_ ?_
          · first | exact rfl | go_simp
          · intro W hW
            obtain ⟨g0, g1, g2, g3, g4, g5, g6, g7, g8⟩ := HQT.out.keep (B := WQ.heap.size) hq2 hW
            go_simp
          intro KK hK
          go_simp
          with_reducible refine hK _ ?_
          clear hK KK
          with_reducible refine class_opk (.pointer (some ⟨w.heap.size, 5, none⟩)) ?_ ?_ ?_
          · first | exact rfl | go_simp
          · intro W hW
            go_simp
          intro KK hK
          go_simp
          with_reducible refine hK _ ?_
          clear hK KK
          with_reducible refine class_opk (.int .i64 z) ?_ ?_ ?_
          · first | exact rfl | go_simp
          · intro W hW
            obtain ⟨g0, g1, g2, g3, g4, g5⟩ := HQE.out.keep (B := WQ.heap.size) hq1 hW
            go_simp
          intro KK hK
          go_simp
          with_reducible refine hK _ ?_
          clear hK KK
          with_reducible refine class_opk (.bool false) ?_ ?_ ?_
          · first | exact rfl | go_simp
          · intro W hW
            go_simp
          intro KK hK
          go_simp
          with_reducible refine hK _ ?_
          clear hK KK
          with_reducible refine class_opk (.bool false) ?_ ?_ ?_
          · first | exact rfl | go_simp
          · intro W hW
            go_simp
          intro KK hK
          go_simp
          with_reducible refine hK _ ?_
          clear hK KK
          with_reducible refine class_opk (.bool false) ?_ ?_ ?_
          · first | exact rfl | go_simp
          · intro W hW
            go_simp
          intro KK hK
          go_simp
          with_reducible refine hK _ ?_
          clear hK KK
          with_reducible refine class_opk (.pointer (some ⟨wr.heap.size, 2, none⟩)) ?_ ?_ ?_
          · first | exact rfl | go_simp
          · intro W hW
            go_simp
          intro KK hK
          go_simp
          with_reducible refine hK _ ?_
          clear hK KK
          with_reducible refine class_opk (.int .i64 t.x.t) ?_ ?_ ?_
          · first | exact rfl | go_simp
          · intro W hW
            obtain ⟨g0, g1, g2, g3, g4, g5, g6, g7, g8⟩ := HQT.out.keep (B := WQ.heap.size) hq2 hW
            go_simp
          intro KK hK
          go_simp
          with_reducible refine hK _ ?_
          clear hK KK
          with_reducible refine class_opk (.bool false) ?_ ?_ ?_
          · first | exact rfl | go_simp
          · intro W hW
            go_simp
          intro KK hK
          go_simp
          with_reducible refine hK _ ?_
          clear hK KK
          with_reducible refine class_opk (.bool false) ?_ ?_ ?_
          · first | exact rfl | go_simp
          · intro W hW
            go_simp
          intro KK hK
          go_simp
          with_reducible refine hK _ ?_
          clear hK KK
          with_reducible refine class_skipk ?_ ?_
          · first | exact rfl | (go_simp; try simp [undef])
          intro KK hK
          go_simp
          with_reducible refine hK _ ?_
          clear hK KK
          with_reducible refine class_skipk ?_ ?_
          · first | exact rfl | (go_simp; try simp [undef])
          intro KK hK
          go_simp
          with_reducible refine hK _ ?_
          clear hK KK
          with_reducible refine class_skipk ?_ ?_
          · first | exact rfl | (go_simp; try simp [undef])
          intro KK hK
          go_simp
          with_reducible refine hK _ ?_
          clear hK KK
          with_reducible refine class_skipk ?_ ?_
          · first | exact rfl | (go_simp; try simp [undef])
          intro KK hK
          go_simp
          with_reducible refine hK _ ?_
          clear hK KK
          with_reducible refine class_skipk ?_ ?_
          · first | exact rfl | (go_simp; try simp [undef])
          intro KK hK
          go_simp
          with_reducible refine hK _ ?_
          clear hK KK
          with_reducible refine class_opk (.bool false) ?_ ?_ ?_
          · first | exact rfl | go_simp
          · intro W hW
            go_simp
          intro KK hK
          go_simp
          with_reducible refine hK _ ?_
          clear hK KK
          with_reducible refine class_opk (.bool false) ?_ ?_ ?_
          · first | exact rfl | go_simp
          · intro W hW
            go_simp
          intro KK hK
          go_simp
          with_reducible refine hK _ ?_
          clear hK KK
          go_simp
          intro V hV
          have HVB := Lib.hid (HQB.out.trans (hV.mono HQB.out.size))
          have HVW := Lib.hid (HQW.out.trans (hV.mono (by have := HQW.out.size; omega)))
          clear hV
          go_wp2_with fail
          go_roundw
          case rel => exact ⟨k + 1, by omega, by go_num, pri_step HP.out HX.out (HOK.out) HFOL.out, HVW.out⟩
          case measure => simp [intOf]; omega
        have tac : (t.x.t == 1) = true := by simpa using hac
        rcases hrx : rexB C t.x t.R t.S with _ | _
        · have HRX := Lib.hid hrx
          have HV : Hid (enB ⟨q, C, L, K, X, z⟩ = false) := Lib.hid (by rw [HEN2.out, show sqB (okT C z) folT L = false from sq_bad HX.out (by unfold okT; rw [decide_eq_true hac, hrx]; simp)]; rfl)
          clear hac hrx
          refine class_region WQ.heap.size (by kernel_rfl) (by kernel_rfl) ?_
          with_reducible refine class_opk (.agg #[.int .i64 t.x.i, .int .i64 t.x.s, .int .i64 t.x.t, .int .i64 t.x.b, .int .i64 t.x.l, .int .i64 t.x.h, .int .i64 t.x.c, .slice P1 p1 pc, .slice P2 p2 qc]) ?_ ?_ ?_
          · first | exact rfl | go_simp
          · intro W hW
            obtain ⟨g0, g1, g2, g3, g4, g5, g6, g7, g8⟩ := HQT.out.keep (B := WQ.heap.size) hq2 hW
            go_simp
          intro KK hK
          go_simp
          with_reducible refine hK _ ?_
          clear hK KK
          with_reducible refine class_opk (.bool true) ?_ ?_ ?_
          · first | exact rfl | go_simp
          · intro W hW
            go_simp
            refine class_call hW ?_
            have hc := HTXC.out W hW
            rw [HTX.out] at hc
            exact hc
          intro KK hK
          go_simp
          with_reducible refine hK _ ?_
          clear hK KK
          with_reducible refine class_opk (.bool false) ?_ ?_ ?_
          · first | exact rfl | go_simp
          · intro W hW
            go_simp
          intro KK hK
          go_simp
          with_reducible refine hK _ ?_
          clear hK KK
          with_reducible refine class_opk (.bool false) ?_ ?_ ?_
          · first | exact rfl | go_simp
          · intro W hW
            go_simp
          intro KK hK
          go_simp
          with_reducible refine hK _ ?_
          clear hK KK
          with_reducible refine class_opk (.int .i64 (k : Int)) ?_ ?_ ?_
          · first | exact rfl | go_simp
          · intro W hW
            go_simp
          intro KK hK
          go_simp
          with_reducible refine hK _ ?_
          clear hK KK
          with_reducible refine class_opk (.bool false) ?_ ?_ ?_
          · first | exact rfl | go_simp
          · intro W hW
            go_simp
          intro KK hK
          go_simp
          with_reducible refine hK _ ?_
          clear hK KK
          with_reducible refine class_opk (.bool false) ?_ ?_ ?_
          · first | exact rfl | go_simp
          · intro W hW
            go_simp
          intro KK hK
          go_simp
          with_reducible refine hK _ ?_
          clear hK KK
          with_reducible refine class_skipk ?_ ?_
          · first | exact rfl | (go_simp; try simp [undef])
          intro KK hK
          go_simp
          with_reducible refine hK _ ?_
          clear hK KK
          with_reducible refine class_skipk ?_ ?_
          · first | exact rfl | (go_simp; try simp [undef])
          intro KK hK
          go_simp
          with_reducible refine hK _ ?_
          clear hK KK
          with_reducible refine class_skipk ?_ ?_
          · first | exact rfl | (go_simp; try simp [undef])
          intro KK hK
          go_simp
          with_reducible refine hK _ ?_
          clear hK KK
          with_reducible refine class_skipk ?_ ?_
          · first | exact rfl | (go_simp; try simp [undef])
          intro KK hK
          go_simp
          with_reducible refine hK _ ?_
          clear hK KK
          with_reducible refine class_skipk ?_ ?_
          · first | exact rfl | (go_simp; try simp [undef])
          intro KK hK
          go_simp
          with_reducible refine hK _ ?_
          clear hK KK
          with_reducible refine class_skipk ?_ ?_
          · first | exact rfl | (go_simp; try simp [undef])
          intro KK hK
          go_simp
          with_reducible refine hK _ ?_
          clear hK KK
          with_reducible refine class_skipk ?_ ?_
          · first | exact rfl | (go_simp; try simp [undef])
          intro KK hK
          go_simp
          with_reducible refine hK _ ?_
          clear hK KK
          with_reducible refine class_skipk ?_ ?_
          · first | exact rfl | (go_simp; try simp [undef])
          intro KK hK
          go_simp
          with_reducible refine hK _ ?_
          clear hK KK
          with_reducible refine class_skipk ?_ ?_
          · first | exact rfl | (go_simp; try simp [undef])
          intro KK hK
          go_simp
          with_reducible refine hK _ ?_
          clear hK KK
          with_reducible refine class_skipk ?_ ?_
          · first | exact rfl | (go_simp; try simp [undef])
          intro KK hK
          go_simp
          with_reducible refine hK _ ?_
          clear hK KK
          with_reducible refine class_opk (.bool false) ?_ ?_ ?_
          · first | exact rfl | go_simp
          · intro W hW
            go_simp
          intro KK hK
          go_simp
          with_reducible refine hK _ ?_
          clear hK KK
          with_reducible refine class_opk (.bool false) ?_ ?_ ?_
          · first | exact rfl | go_simp
          · intro W hW
            go_simp
          intro KK hK
          go_simp
          with_reducible refine hK _ ?_
          clear hK KK
          with_reducible refine class_opk (.bool false) ?_ ?_ ?_
          · first | exact rfl | go_simp
          · intro W hW
            go_simp
          intro KK hK
          go_simp
          with_reducible refine hK _ ?_
          clear hK KK
          with_reducible refine class_opk (.pointer (some ⟨wr.heap.size, 3, none⟩)) ?_ ?_ ?_
          · first | exact rfl | go_simp
          · intro W hW
            go_simp
          intro KK hK
          go_simp
          with_reducible refine hK _ ?_
          clear hK KK
          with_reducible refine class_opk (.int .i64 t.x.b) ?_ ?_ ?_
          · first | exact rfl | go_simp
          · intro W hW
            obtain ⟨g0, g1, g2, g3, g4, g5, g6, g7, g8⟩ := HQT.out.keep (B := WQ.heap.size) hq2 hW
            go_simp
          intro KK hK
          go_simp
          with_reducible refine hK _ ?_
          clear hK KK
          with_reducible refine class_opk (.pointer (some ⟨w.heap.size, 5, none⟩)) ?_ ?_ ?_
          · first | exact rfl | go_simp
          · intro W hW
            go_simp
          intro KK hK
          go_simp
          with_reducible refine hK _ ?_
          clear hK KK
          with_reducible refine class_opk (.int .i64 z) ?_ ?_ ?_
          · first | exact rfl | go_simp
          · intro W hW
            obtain ⟨g0, g1, g2, g3, g4, g5⟩ := HQE.out.keep (B := WQ.heap.size) hq1 hW
            go_simp
          intro KK hK
          go_simp
          with_reducible refine hK _ ?_
          clear hK KK
          with_reducible refine class_opk (.bool false) ?_ ?_ ?_
          · first | exact rfl | go_simp
          · intro W hW
            go_simp
          intro KK hK
          go_simp
          with_reducible refine hK _ ?_
          clear hK KK
          with_reducible refine class_opk (.bool false) ?_ ?_ ?_
          · first | exact rfl | go_simp
          · intro W hW
            go_simp
          intro KK hK
          go_simp
          with_reducible refine hK _ ?_
          clear hK KK
          with_reducible refine class_opk (.bool false) ?_ ?_ ?_
          · first | exact rfl | go_simp
          · intro W hW
            go_simp
          intro KK hK
          go_simp
          with_reducible refine hK _ ?_
          clear hK KK
          with_reducible refine class_opk (.pointer (some ⟨wr.heap.size, 6, none⟩)) ?_ ?_ ?_
          · first | exact rfl | go_simp
          · intro W hW
            go_simp
          intro KK hK
          go_simp
          with_reducible refine hK _ ?_
          clear hK KK
          with_reducible refine class_opk (.int .i64 t.x.c) ?_ ?_ ?_
          · first | exact rfl | go_simp
          · intro W hW
            obtain ⟨g0, g1, g2, g3, g4, g5, g6, g7, g8⟩ := HQT.out.keep (B := WQ.heap.size) hq2 hW
            go_simp
          intro KK hK
          go_simp
          with_reducible refine hK _ ?_
          clear hK KK
          with_reducible refine class_opk (.pointer (some ⟨w.heap.size, 5, none⟩)) ?_ ?_ ?_
          · first | exact rfl | go_simp
          · intro W hW
            go_simp
          intro KK hK
          go_simp
          with_reducible refine hK _ ?_
          clear hK KK
          with_reducible refine class_opk (.int .i64 z) ?_ ?_ ?_
          · first | exact rfl | go_simp
          · intro W hW
            obtain ⟨g0, g1, g2, g3, g4, g5⟩ := HQE.out.keep (B := WQ.heap.size) hq1 hW
            go_simp
          intro KK hK
          go_simp
          with_reducible refine hK _ ?_
          clear hK KK
          with_reducible refine class_opk (.bool false) ?_ ?_ ?_
          · first | exact rfl | go_simp
          · intro W hW
            go_simp
          intro KK hK
          go_simp
          with_reducible refine hK _ ?_
          clear hK KK
          with_reducible refine class_opk (.bool false) ?_ ?_ ?_
          · first | exact rfl | go_simp
          · intro W hW
            go_simp
          intro KK hK
          go_simp
          with_reducible refine hK _ ?_
          clear hK KK
          with_reducible refine class_opk (.bool false) ?_ ?_ ?_
          · first | exact rfl | go_simp
          · intro W hW
            go_simp
          intro KK hK
          go_simp
          with_reducible refine hK _ ?_
          clear hK KK
          with_reducible refine class_opk (.pointer (some ⟨wr.heap.size, 2, none⟩)) ?_ ?_ ?_
          · first | exact rfl | go_simp
          · intro W hW
            go_simp
          intro KK hK
          go_simp
          with_reducible refine hK _ ?_
          clear hK KK
          with_reducible refine class_opk (.int .i64 t.x.t) ?_ ?_ ?_
          · first | exact rfl | go_simp
          · intro W hW
            obtain ⟨g0, g1, g2, g3, g4, g5, g6, g7, g8⟩ := HQT.out.keep (B := WQ.heap.size) hq2 hW
            go_simp
          intro KK hK
          go_simp
          with_reducible refine hK _ ?_
          clear hK KK
          with_reducible refine class_opk (.bool true) ?_ ?_ ?_
          · first | exact rfl | go_simp
          · intro W hW
            go_simp
          intro KK hK
          go_simp
          with_reducible refine hK _ ?_
          clear hK KK
          with_reducible refine class_opk (.bool true) ?_ ?_ ?_
          · first | exact rfl | go_simp
          · intro W hW
            go_simp
          intro KK hK
          go_simp
          with_reducible refine hK _ ?_
          clear hK KK
          with_reducible refine class_opk (.pointer (some ⟨w.heap.size, 1, none⟩)) ?_ ?_ ?_
          · first | exact rfl | go_simp
          · intro W hW
            go_simp
          intro KK hK
          go_simp
          with_reducible refine hK _ ?_
          clear hK KK
          with_reducible refine class_opk (.agg #[.slice A1 n1 c1]) ?_ ?_ ?_
          · first | exact rfl | go_simp
          · intro W hW
            obtain ⟨g0, g1, g2, g3, g4, g5⟩ := HQE.out.keep (B := WQ.heap.size) hq1 hW
            go_simp
          intro KK hK
          go_simp
          with_reducible refine hK _ ?_
          clear hK KK
          with_reducible refine class_opk (.agg #[.int .i64 t.x.i, .int .i64 t.x.s, .int .i64 t.x.t, .int .i64 t.x.b, .int .i64 t.x.l, .int .i64 t.x.h, .int .i64 t.x.c, .slice P1 p1 pc, .slice P2 p2 qc]) ?_ ?_ ?_
          · first | exact rfl | go_simp
          · intro W hW
            obtain ⟨g0, g1, g2, g3, g4, g5, g6, g7, g8⟩ := HQT.out.keep (B := WQ.heap.size) hq2 hW
            go_simp
          intro KK hK
          go_simp
          with_reducible refine hK _ ?_
          clear hK KK
          with_reducible refine class_opk (.bool false) ?_ ?_ ?_
          · first | exact rfl | go_simp
          · intro W hW
            go_simp
            refine class_call hW ?_
            have hc := HRXC.out W hW
            rw [HRX.out] at hc
            exact hc
          intro KK hK
          go_simp
          with_reducible refine hK _ ?_
          clear hK KK
          with_reducible refine class_opk (.bool true) ?_ ?_ ?_
          · first | exact rfl | go_simp
          · intro W hW
            go_simp
          intro KK hK
          go_simp
          with_reducible refine hK _ ?_
          clear hK KK
          with_reducible refine class_opk (.bool true) ?_ ?_ ?_
          · first | exact rfl | go_simp
          · intro W hW
            go_simp
          intro KK hK
          go_simp
          with_reducible refine hK _ ?_
          clear hK KK
          with_reducible refine class_opk (.bool true) ?_ ?_ ?_
          · first | exact rfl | go_simp
          · intro W hW
            go_simp
          intro KK hK
          go_simp
          with_reducible refine hK _ ?_
          clear hK KK
          go_simp
          intro V hV
          have HVB := Lib.hid (HQB.out.trans (hV.mono HQB.out.size))
          have HVW := Lib.hid (HQW.out.trans (hV.mono (by have := HQW.out.size; omega)))
          clear hV
          go_wp2_with fail
          go_ret
          exact ⟨ret_b HV.out.symm, HVB.out⟩
        have HRX := Lib.hid hrx
        have HOK : Hid (okT C z t = true) := Lib.hid (by unfold okT; rw [HTX.out, hbz, hcz, hrx]; simp)
        clear hac hrx
        refine class_region WQ.heap.size (by kernel_rfl) (by kernel_rfl) ?_
        with_reducible refine class_opk (.agg #[.int .i64 t.x.i, .int .i64 t.x.s, .int .i64 t.x.t, .int .i64 t.x.b, .int .i64 t.x.l, .int .i64 t.x.h, .int .i64 t.x.c, .slice P1 p1 pc, .slice P2 p2 qc]) ?_ ?_ ?_
        · first | exact rfl | go_simp
        · intro W hW
          obtain ⟨g0, g1, g2, g3, g4, g5, g6, g7, g8⟩ := HQT.out.keep (B := WQ.heap.size) hq2 hW
          go_simp
        intro KK hK
        go_simp
        with_reducible refine hK _ ?_
        clear hK KK
        with_reducible refine class_opk (.bool true) ?_ ?_ ?_
        · first | exact rfl | go_simp
        · intro W hW
          go_simp
          refine class_call hW ?_
          have hc := HTXC.out W hW
          rw [HTX.out] at hc
          exact hc
        intro KK hK
        go_simp
        with_reducible refine hK _ ?_
        clear hK KK
        with_reducible refine class_opk (.bool false) ?_ ?_ ?_
        · first | exact rfl | go_simp
        · intro W hW
          go_simp
        intro KK hK
        go_simp
        with_reducible refine hK _ ?_
        clear hK KK
        with_reducible refine class_opk (.bool false) ?_ ?_ ?_
        · first | exact rfl | go_simp
        · intro W hW
          go_simp
        intro KK hK
        go_simp
        with_reducible refine hK _ ?_
        clear hK KK
        with_reducible refine class_opk (.int .i64 (k : Int)) ?_ ?_ ?_
        · first | exact rfl | go_simp
        · intro W hW
          go_simp
        intro KK hK
        go_simp
        with_reducible refine hK _ ?_
        clear hK KK
        with_reducible refine class_opk (.bool false) ?_ ?_ ?_
        · first | exact rfl | go_simp
        · intro W hW
          go_simp
        intro KK hK
        go_simp
        with_reducible refine hK _ ?_
        clear hK KK
        with_reducible refine class_opk (.bool false) ?_ ?_ ?_
        · first | exact rfl | go_simp
        · intro W hW
          go_simp
        intro KK hK
        go_simp
        with_reducible refine hK _ ?_
        clear hK KK
        with_reducible refine class_skipk ?_ ?_
        · first | exact rfl | (go_simp; try simp [undef])
        intro KK hK
        go_simp
        with_reducible refine hK _ ?_
        clear hK KK
        with_reducible refine class_skipk ?_ ?_
        · first | exact rfl | (go_simp; try simp [undef])
        intro KK hK
        go_simp
        with_reducible refine hK _ ?_
        clear hK KK
        with_reducible refine class_skipk ?_ ?_
        · first | exact rfl | (go_simp; try simp [undef])
        intro KK hK
        go_simp
        with_reducible refine hK _ ?_
        clear hK KK
        with_reducible refine class_skipk ?_ ?_
        · first | exact rfl | (go_simp; try simp [undef])
        intro KK hK
        go_simp
        with_reducible refine hK _ ?_
        clear hK KK
        with_reducible refine class_skipk ?_ ?_
        · first | exact rfl | (go_simp; try simp [undef])
        intro KK hK
        go_simp
        with_reducible refine hK _ ?_
        clear hK KK
        with_reducible refine class_skipk ?_ ?_
        · first | exact rfl | (go_simp; try simp [undef])
        intro KK hK
        go_simp
        with_reducible refine hK _ ?_
        clear hK KK
        with_reducible refine class_skipk ?_ ?_
        · first | exact rfl | (go_simp; try simp [undef])
        intro KK hK
        go_simp
        with_reducible refine hK _ ?_
        clear hK KK
        with_reducible refine class_skipk ?_ ?_
        · first | exact rfl | (go_simp; try simp [undef])
        intro KK hK
        go_simp
        with_reducible refine hK _ ?_
        clear hK KK
        with_reducible refine class_skipk ?_ ?_
        · first | exact rfl | (go_simp; try simp [undef])
        intro KK hK
        go_simp
        with_reducible refine hK _ ?_
        clear hK KK
        with_reducible refine class_skipk ?_ ?_
        · first | exact rfl | (go_simp; try simp [undef])
        intro KK hK
        go_simp
        with_reducible refine hK _ ?_
        clear hK KK
        with_reducible refine class_opk (.bool false) ?_ ?_ ?_
        · first | exact rfl | go_simp
        · intro W hW
          go_simp
        intro KK hK
        go_simp
        with_reducible refine hK _ ?_
        clear hK KK
        with_reducible refine class_opk (.bool false) ?_ ?_ ?_
        · first | exact rfl | go_simp
        · intro W hW
          go_simp
        intro KK hK
        go_simp
        with_reducible refine hK _ ?_
        clear hK KK
        with_reducible refine class_opk (.bool false) ?_ ?_ ?_
        · first | exact rfl | go_simp
        · intro W hW
          go_simp
        intro KK hK
        go_simp
        with_reducible refine hK _ ?_
        clear hK KK
        with_reducible refine class_opk (.pointer (some ⟨wr.heap.size, 3, none⟩)) ?_ ?_ ?_
        · first | exact rfl | go_simp
        · intro W hW
          go_simp
        intro KK hK
        go_simp
        with_reducible refine hK _ ?_
        clear hK KK
        with_reducible refine class_opk (.int .i64 t.x.b) ?_ ?_ ?_
        · first | exact rfl | go_simp
        · intro W hW
          obtain ⟨g0, g1, g2, g3, g4, g5, g6, g7, g8⟩ := HQT.out.keep (B := WQ.heap.size) hq2 hW
          go_simp
        intro KK hK
        go_simp
        with_reducible refine hK _ ?_
        clear hK KK
        with_reducible refine class_opk (.pointer (some ⟨w.heap.size, 5, none⟩)) ?_ ?_ ?_
        · first | exact rfl | go_simp
        · intro W hW
          go_simp
        intro KK hK
        go_simp
        with_reducible refine hK _ ?_
        clear hK KK
        with_reducible refine class_opk (.int .i64 z) ?_ ?_ ?_
        · first | exact rfl | go_simp
        · intro W hW
          obtain ⟨g0, g1, g2, g3, g4, g5⟩ := HQE.out.keep (B := WQ.heap.size) hq1 hW
          go_simp
        intro KK hK
        go_simp
        with_reducible refine hK _ ?_
        clear hK KK
        with_reducible refine class_opk (.bool false) ?_ ?_ ?_
        · first | exact rfl | go_simp
        · intro W hW
          go_simp
        intro KK hK
        go_simp
        with_reducible refine hK _ ?_
        clear hK KK
        with_reducible refine class_opk (.bool false) ?_ ?_ ?_
        · first | exact rfl | go_simp
        · intro W hW
          go_simp
        intro KK hK
        go_simp
        with_reducible refine hK _ ?_
        clear hK KK
        with_reducible refine class_opk (.bool false) ?_ ?_ ?_
        · first | exact rfl | go_simp
        · intro W hW
          go_simp
        intro KK hK
        go_simp
        with_reducible refine hK _ ?_
        clear hK KK
        with_reducible refine class_opk (.pointer (some ⟨wr.heap.size, 6, none⟩)) ?_ ?_ ?_
        · first | exact rfl | go_simp
        · intro W hW
          go_simp
        intro KK hK
        go_simp
        with_reducible refine hK _ ?_
        clear hK KK
        with_reducible refine class_opk (.int .i64 t.x.c) ?_ ?_ ?_
        · first | exact rfl | go_simp
        · intro W hW
          obtain ⟨g0, g1, g2, g3, g4, g5, g6, g7, g8⟩ := HQT.out.keep (B := WQ.heap.size) hq2 hW
          go_simp
        intro KK hK
        go_simp
        with_reducible refine hK _ ?_
        clear hK KK
        with_reducible refine class_opk (.pointer (some ⟨w.heap.size, 5, none⟩)) ?_ ?_ ?_
        · first | exact rfl | go_simp
        · intro W hW
          go_simp
        intro KK hK
        go_simp
        with_reducible refine hK _ ?_
        clear hK KK
        with_reducible refine class_opk (.int .i64 z) ?_ ?_ ?_
        · first | exact rfl | go_simp
        · intro W hW
          obtain ⟨g0, g1, g2, g3, g4, g5⟩ := HQE.out.keep (B := WQ.heap.size) hq1 hW
          go_simp
        intro KK hK
        go_simp
        with_reducible refine hK _ ?_
        clear hK KK
        with_reducible refine class_opk (.bool false) ?_ ?_ ?_
        · first | exact rfl | go_simp
        · intro W hW
          go_simp
        intro KK hK
        go_simp
        with_reducible refine hK _ ?_
        clear hK KK
        with_reducible refine class_opk (.bool false) ?_ ?_ ?_
        · first | exact rfl | go_simp
        · intro W hW
          go_simp
        intro KK hK
        go_simp
        with_reducible refine hK _ ?_
        clear hK KK
        with_reducible refine class_opk (.bool false) ?_ ?_ ?_
        · first | exact rfl | go_simp
        · intro W hW
          go_simp
        intro KK hK
        go_simp
        with_reducible refine hK _ ?_
        clear hK KK
        with_reducible refine class_opk (.pointer (some ⟨wr.heap.size, 2, none⟩)) ?_ ?_ ?_
        · first | exact rfl | go_simp
        · intro W hW
          go_simp
        intro KK hK
        go_simp
        with_reducible refine hK _ ?_
        clear hK KK
        with_reducible refine class_opk (.int .i64 t.x.t) ?_ ?_ ?_
        · first | exact rfl | go_simp
        · intro W hW
          obtain ⟨g0, g1, g2, g3, g4, g5, g6, g7, g8⟩ := HQT.out.keep (B := WQ.heap.size) hq2 hW
          go_simp
        intro KK hK
        go_simp
        with_reducible refine hK _ ?_
        clear hK KK
        with_reducible refine class_opk (.bool true) ?_ ?_ ?_
        · first | exact rfl | go_simp
        · intro W hW
          go_simp
        intro KK hK
        go_simp
        with_reducible refine hK _ ?_
        clear hK KK
        with_reducible refine class_opk (.bool true) ?_ ?_ ?_
        · first | exact rfl | go_simp
        · intro W hW
          go_simp
        intro KK hK
        go_simp
        with_reducible refine hK _ ?_
        clear hK KK
        with_reducible refine class_opk (.pointer (some ⟨w.heap.size, 1, none⟩)) ?_ ?_ ?_
        · first | exact rfl | go_simp
        · intro W hW
          go_simp
        intro KK hK
        go_simp
        with_reducible refine hK _ ?_
        clear hK KK
        with_reducible refine class_opk (.agg #[.slice A1 n1 c1]) ?_ ?_ ?_
        · first | exact rfl | go_simp
        · intro W hW
          obtain ⟨g0, g1, g2, g3, g4, g5⟩ := HQE.out.keep (B := WQ.heap.size) hq1 hW
          go_simp
        intro KK hK
        go_simp
        with_reducible refine hK _ ?_
        clear hK KK
        with_reducible refine class_opk (.agg #[.int .i64 t.x.i, .int .i64 t.x.s, .int .i64 t.x.t, .int .i64 t.x.b, .int .i64 t.x.l, .int .i64 t.x.h, .int .i64 t.x.c, .slice P1 p1 pc, .slice P2 p2 qc]) ?_ ?_ ?_
        · first | exact rfl | go_simp
        · intro W hW
          obtain ⟨g0, g1, g2, g3, g4, g5, g6, g7, g8⟩ := HQT.out.keep (B := WQ.heap.size) hq2 hW
          go_simp
        intro KK hK
        go_simp
        with_reducible refine hK _ ?_
        clear hK KK
        with_reducible refine class_opk (.bool true) ?_ ?_ ?_
        · first | exact rfl | go_simp
        · intro W hW
          go_simp
          refine class_call hW ?_
          have hc := HRXC.out W hW
          rw [HRX.out] at hc
          exact hc
        intro KK hK
        go_simp
        with_reducible refine hK _ ?_
        clear hK KK
        with_reducible refine class_opk (.bool false) ?_ ?_ ?_
        · first | exact rfl | go_simp
        · intro W hW
          go_simp
        intro KK hK
        go_simp
        with_reducible refine hK _ ?_
        clear hK KK
        with_reducible refine class_opk (.bool false) ?_ ?_ ?_
        · first | exact rfl | go_simp
        · intro W hW
          go_simp
        intro KK hK
        go_simp
        with_reducible refine hK _ ?_
        clear hK KK
        with_reducible refine class_opk (.bool false) ?_ ?_ ?_
        · first | exact rfl | go_simp
        · intro W hW
          go_simp
        intro KK hK
        go_simp
        with_reducible refine hK _ ?_
        clear hK KK
        go_simp
        intro V hV
        have HVB := Lib.hid (HQB.out.trans (hV.mono HQB.out.size))
        have HVW := Lib.hid (HQW.out.trans (hV.mono (by have := HQW.out.size; omega)))
        clear hV
        go_wp2_with fail
        go_roundw
        case rel => exact ⟨k + 1, by omega, by go_num, pri_step HP.out HX.out (HOK.out) HFOL.out, HVW.out⟩
        case measure => simp [intOf]; omega
    · obtain rfl : n2 = k := by omega
      have HSQ : Hid (sqB (okT C z) folT L = true) := Lib.hid (sq_all HLN.out HP.out)
      have hlr : w.heap.size < wr.heap.size := by omega
      clear hb
      go_wp2_with fail
      clear g0 g1 g2 g3 g4 g5
      go_loopw [5] (fun i wx => ∃ k : Nat, k ≤ n3 ∧ i = .int .i64 k ∧ AllP (fun m => acT L m.b) K k ∧ Below wr.heap.size wr wx) (fun i _ => n3 - (intOf i).toNat)
      case atStart => exact ⟨0, by omega, rfl, fun j y h => absurd h (by omega), Below.refl _ _⟩
      case round =>
        obtain ⟨k3, hk3, rfl, hP, hb⟩ := hrel
        have HPk3 := Lib.hid hP
        have HOk3 := Lib.hid hb
        have HBk3 := Lib.hid (HBR.out.trans (hb.mono HBR.out.size))
        have HEk3 := Lib.hid (HER.out.keep (hlr) hb)
        have hlk3 : w.heap.size < wr.heap.size := by have := hb.size; have := hlr; omega
        clear hP hb
        obtain ⟨g0, g1, g2, g3, g4, g5⟩ := HEk3.out
        by_cases hck3 : k3 < n3
        · obtain ⟨b, o, y, rfl, hbB, hx, hy⟩ := (HR.out.k.below (Go.Proofs.YtjnlbhmddhpmaaaGreat.el2.below_le HBk3.out hB)).at_ hck3
          have HX := Lib.hid hx
          have HY := Lib.hid hy
          have hbs : b < wr.heap.size := by have := HBk3.out.size; omega
          have tk : decide ((k3 : Int) < (n3 : Int)) = true := decide_eq_true (by omega)
          clear hx hy
          rcases hd2 : acT L y.b with _ | _
          · have HD2 := Lib.hid hd2
            clear hd2
            have HV : Hid (enB ⟨q, C, L, K, X, z⟩ = false) := Lib.hid (by rw [HEN2.out, HSQ.out, show K.all (fun m => acT L m.b) = false from all_no HX.out (by exact HD2.out)]; rfl)
            go_wp2_with fail
            clear g0 g1 g2 g3 g4 g5
            refine class_region wr.heap.size (by kernel_rfl) (by kernel_rfl) ?_
            with_reducible refine class_opk (.agg #[.bool q, .slice A1 n1 c1, .slice A2 n2 c2, .slice (some ⟨b, o, none⟩) n3 c3, .slice A4 n4 c4, .int .i64 z]) ?_ ?_ ?_
            · first | exact rfl | go_simp
            · intro W hW
              obtain ⟨g0, g1, g2, g3, g4, g5⟩ := HEk3.out.keep (B := wr.heap.size) hlk3 hW
              go_simp
            intro KK hK
            go_simp
            with_reducible refine hK _ ?_
            clear hK KK
            with_reducible refine class_opk (.pointer (some ⟨w.heap.size, 3, none⟩)) ?_ ?_ ?_
            · first | exact rfl | go_simp
            · intro W hW
              go_simp
            intro KK hK
            go_simp
            with_reducible refine hK _ ?_
            clear hK KK
            with_reducible refine class_opk (.slice (some ⟨b, o, none⟩) n3 c3) ?_ ?_ ?_
            · first | exact rfl | go_simp
            · intro W hW
              obtain ⟨g0, g1, g2, g3, g4, g5⟩ := HEk3.out.keep (B := wr.heap.size) hlk3 hW
              go_simp
            intro KK hK
            go_simp
            with_reducible refine hK _ ?_
            clear hK KK
            with_reducible refine class_opk (.int .i64 (k3 : Int)) ?_ ?_ ?_
            · first | exact rfl | go_simp
            · intro W hW
              go_simp
            intro KK hK
            go_simp
            with_reducible refine hK _ ?_
            clear hK KK
            with_reducible refine class_opk (.pointer (some ⟨b, o + k3 * 2, none⟩)) ?_ ?_ ?_
            · first | exact rfl | go_simp
            · intro W hW
              go_simp
            intro KK hK
            go_simp
            with_reducible refine hK _ ?_
            clear hK KK
            with_reducible refine class_opk (.pointer (some ⟨b, o + k3 * 2 + 1, none⟩)) ?_ ?_ ?_
            · first | exact rfl | go_simp
            · intro W hW
              go_simp
            intro KK hK
            go_simp
            with_reducible refine hK _ ?_
            clear hK KK
            with_reducible refine class_opk (.int .i64 y.b) ?_ ?_ ?_
            · first | exact rfl | go_simp
            · intro W hW
              obtain ⟨y0, y1⟩ := HY.out.of_block (hW.block b hbs)
              go_simp
            intro KK hK
            go_simp
            with_reducible refine hK _ ?_
            clear hK KK
            with_reducible refine class_opk (.bool false) ?_ ?_ ?_
            · first | exact rfl | go_simp
            · intro W hW
              go_simp
              refine class_call hW ?_
              have hc := HACT.out W y.b (HBk3.out.trans (hW.mono HBk3.out.size))
              rw [HD2.out] at hc
              exact hc
            intro KK hK
            go_simp
            with_reducible refine hK _ ?_
            clear hK KK
            with_reducible refine class_opk (.bool true) ?_ ?_ ?_
            · first | exact rfl | go_simp
            · intro W hW
              go_simp
            intro KK hK
            go_simp
            with_reducible refine hK _ ?_
            clear hK KK
            go_simp
            intro V hV
            have HVB := Lib.hid (HBk3.out.trans (hV.mono HBk3.out.size))
            have HVO := Lib.hid (HOk3.out.trans (hV.mono HOk3.out.size))
            clear hV
            go_wp2_with fail
            go_ret
            exact ⟨ret_b HV.out.symm, HVB.out⟩
          · have HD2 := Lib.hid hd2
            clear hd2
            go_wp2_with fail
            clear g0 g1 g2 g3 g4 g5
            refine class_region wr.heap.size (by kernel_rfl) (by kernel_rfl) ?_
            with_reducible refine class_opk (.agg #[.bool q, .slice A1 n1 c1, .slice A2 n2 c2, .slice (some ⟨b, o, none⟩) n3 c3, .slice A4 n4 c4, .int .i64 z]) ?_ ?_ ?_
            · first | exact rfl | go_simp
            · intro W hW
              obtain ⟨g0, g1, g2, g3, g4, g5⟩ := HEk3.out.keep (B := wr.heap.size) hlk3 hW
              go_simp
            intro KK hK
            go_simp
            with_reducible refine hK _ ?_
            clear hK KK
            with_reducible refine class_opk (.pointer (some ⟨w.heap.size, 3, none⟩)) ?_ ?_ ?_
            · first | exact rfl | go_simp
            · intro W hW
              go_simp
            intro KK hK
            go_simp
            with_reducible refine hK _ ?_
            clear hK KK
            with_reducible refine class_opk (.slice (some ⟨b, o, none⟩) n3 c3) ?_ ?_ ?_
            · first | exact rfl | go_simp
            · intro W hW
              obtain ⟨g0, g1, g2, g3, g4, g5⟩ := HEk3.out.keep (B := wr.heap.size) hlk3 hW
              go_simp
            intro KK hK
            go_simp
            with_reducible refine hK _ ?_
            clear hK KK
            with_reducible refine class_opk (.int .i64 (k3 : Int)) ?_ ?_ ?_
            · first | exact rfl | go_simp
            · intro W hW
              go_simp
            intro KK hK
            go_simp
            with_reducible refine hK _ ?_
            clear hK KK
            with_reducible refine class_opk (.pointer (some ⟨b, o + k3 * 2, none⟩)) ?_ ?_ ?_
            · first | exact rfl | go_simp
            · intro W hW
              go_simp
            intro KK hK
            go_simp
            with_reducible refine hK _ ?_
            clear hK KK
            with_reducible refine class_opk (.pointer (some ⟨b, o + k3 * 2 + 1, none⟩)) ?_ ?_ ?_
            · first | exact rfl | go_simp
            · intro W hW
              go_simp
            intro KK hK
            go_simp
            with_reducible refine hK _ ?_
            clear hK KK
            with_reducible refine class_opk (.int .i64 y.b) ?_ ?_ ?_
            · first | exact rfl | go_simp
            · intro W hW
              obtain ⟨y0, y1⟩ := HY.out.of_block (hW.block b hbs)
              go_simp
            intro KK hK
            go_simp
            with_reducible refine hK _ ?_
            clear hK KK
            with_reducible refine class_opk (.bool true) ?_ ?_ ?_
            · first | exact rfl | go_simp
            · intro W hW
              go_simp
              refine class_call hW ?_
              have hc := HACT.out W y.b (HBk3.out.trans (hW.mono HBk3.out.size))
              rw [HD2.out] at hc
              exact hc
            intro KK hK
            go_simp
            with_reducible refine hK _ ?_
            clear hK KK
            with_reducible refine class_opk (.bool false) ?_ ?_ ?_
            · first | exact rfl | go_simp
            · intro W hW
              go_simp
            intro KK hK
            go_simp
            with_reducible refine hK _ ?_
            clear hK KK
            go_simp
            intro V hV
            have HVB := Lib.hid (HBk3.out.trans (hV.mono HBk3.out.size))
            have HVO := Lib.hid (HOk3.out.trans (hV.mono HOk3.out.size))
            clear hV
            go_wp2_with fail
            go_roundw
            case rel => exact ⟨k3 + 1, by omega, by go_num, all_step HPk3.out HX.out (by exact HD2.out), HVO.out⟩
            case measure => simp [intOf]; omega
        · obtain rfl : n3 = k3 := by omega
          have HKA : Hid (K.all (fun m => acT L m.b) = true) := Lib.hid (all_yes HLK.out HPk3.out)
          go_wp2_with fail
          clear g0 g1 g2 g3 g4 g5
          go_loopw [6] (fun i wx => ∃ k : Nat, k ≤ n4 ∧ i = .int .i64 k ∧ AllP (fun m => acT L m.a && acT L m.b) X k ∧ Below wr.heap.size wr wx) (fun i _ => n4 - (intOf i).toNat)
          case atStart => exact ⟨0, by omega, rfl, fun j y h => absurd h (by omega), Below.refl _ _⟩
          case round =>
            obtain ⟨k4, hk4, rfl, hP, hb⟩ := hrel
            have HPk4 := Lib.hid hP
            have HOk4 := Lib.hid hb
            have HBk4 := Lib.hid (HBk3.out.trans (hb.mono HBk3.out.size))
            have HEk4 := Lib.hid (HEk3.out.keep (hlk3) hb)
            have hlk4 : w.heap.size < wr.heap.size := by have := hb.size; have := hlk3; omega
            clear hP hb
            obtain ⟨g0, g1, g2, g3, g4, g5⟩ := HEk4.out
            by_cases hck4 : k4 < n4
            · obtain ⟨b, o, y, rfl, hbB, hx, hy⟩ := (HR.out.x.below (Go.Proofs.YtjnlbhmddhpmaaaGreat.el2.below_le HBk4.out hB)).at_ hck4
              have HX := Lib.hid hx
              have HY := Lib.hid hy
              have hbs : b < wr.heap.size := by have := HBk4.out.size; omega
              have tk : decide ((k4 : Int) < (n4 : Int)) = true := decide_eq_true (by omega)
              clear hx hy
              rcases hd1 : acT L y.a with _ | _
              · have HD1 := Lib.hid hd1
                clear hd1
                have HV : Hid (enB ⟨q, C, L, K, X, z⟩ = false) := Lib.hid (by rw [HEN2.out, HSQ.out, HKA.out, show X.all (fun m => acT L m.a && acT L m.b) = false from all_no HX.out (by show (acT L y.a && acT L y.b) = false; rw [HD1.out]; rfl)]; rfl)
                go_wp2_with fail
                clear g0 g1 g2 g3 g4 g5
                refine class_region wr.heap.size (by kernel_rfl) (by kernel_rfl) ?_
                with_reducible refine class_opk (.agg #[.bool q, .slice A1 n1 c1, .slice A2 n2 c2, .slice A3 n3 c3, .slice (some ⟨b, o, none⟩) n4 c4, .int .i64 z]) ?_ ?_ ?_
                · first | exact rfl | go_simp
                · intro W hW
                  obtain ⟨g0, g1, g2, g3, g4, g5⟩ := HEk4.out.keep (B := wr.heap.size) hlk4 hW
                  go_simp
                intro KK hK
                go_simp
                with_reducible refine hK _ ?_
                clear hK KK
                with_reducible refine class_opk (.pointer (some ⟨w.heap.size, 4, none⟩)) ?_ ?_ ?_
                · first | exact rfl | go_simp
                · intro W hW
                  go_simp
                intro KK hK
                go_simp
                with_reducible refine hK _ ?_
                clear hK KK
                with_reducible refine class_opk (.slice (some ⟨b, o, none⟩) n4 c4) ?_ ?_ ?_
                · first | exact rfl | go_simp
                · intro W hW
                  obtain ⟨g0, g1, g2, g3, g4, g5⟩ := HEk4.out.keep (B := wr.heap.size) hlk4 hW
                  go_simp
                intro KK hK
                go_simp
                with_reducible refine hK _ ?_
                clear hK KK
                with_reducible refine class_opk (.int .i64 (k4 : Int)) ?_ ?_ ?_
                · first | exact rfl | go_simp
                · intro W hW
                  go_simp
                intro KK hK
                go_simp
                with_reducible refine hK _ ?_
                clear hK KK
                with_reducible refine class_opk (.pointer (some ⟨b, o + k4 * 2, none⟩)) ?_ ?_ ?_
                · first | exact rfl | go_simp
                · intro W hW
                  go_simp
                intro KK hK
                go_simp
                with_reducible refine hK _ ?_
                clear hK KK
                with_reducible refine class_opk (.pointer (some ⟨b, o + k4 * 2, none⟩)) ?_ ?_ ?_
                · first | exact rfl | go_simp
                · intro W hW
                  go_simp
                intro KK hK
                go_simp
                with_reducible refine hK _ ?_
                clear hK KK
                with_reducible refine class_opk (.int .i64 y.a) ?_ ?_ ?_
                · first | exact rfl | go_simp
                · intro W hW
                  obtain ⟨y0, y1⟩ := HY.out.of_block (hW.block b hbs)
                  go_simp
                intro KK hK
                go_simp
                with_reducible refine hK _ ?_
                clear hK KK
                with_reducible refine class_opk (.bool false) ?_ ?_ ?_
                · first | exact rfl | go_simp
                · intro W hW
                  go_simp
                  refine class_call hW ?_
                  have hc := HACT.out W y.a (HBk4.out.trans (hW.mono HBk4.out.size))
                  rw [HD1.out] at hc
                  exact hc
                intro KK hK
                go_simp
                with_reducible refine hK _ ?_
                clear hK KK
                with_reducible refine class_opk (.bool true) ?_ ?_ ?_
                · first | exact rfl | go_simp
                · intro W hW
                  go_simp
                intro KK hK
                go_simp
                with_reducible refine hK _ ?_
                clear hK KK
                with_reducible refine class_opk (.bool true) ?_ ?_ ?_
                · first | exact rfl | go_simp
                · intro W hW
                  go_simp
                intro KK hK
                go_simp
                with_reducible refine hK _ ?_
                clear hK KK
                with_reducible refine class_skipk ?_ ?_
                · first | exact rfl | (go_simp; try simp [undef])
                intro KK hK
                go_simp
                with_reducible refine hK _ ?_
                clear hK KK
                with_reducible refine class_skipk ?_ ?_
                · first | exact rfl | (go_simp; try simp [undef])
                intro KK hK
                go_simp
                with_reducible refine hK _ ?_
                clear hK KK
                with_reducible refine class_skipk ?_ ?_
                · first | exact rfl | (go_simp; try simp [undef])
                intro KK hK
                go_simp
                with_reducible refine hK _ ?_
                clear hK KK
                with_reducible refine class_skipk ?_ ?_
                · first | exact rfl | (go_simp; try simp [undef])
                intro KK hK
                go_simp
                with_reducible refine hK _ ?_
                clear hK KK
                with_reducible refine class_skipk ?_ ?_
                · first | exact rfl | (go_simp; try simp [undef])
                intro KK hK
                go_simp
                with_reducible refine hK _ ?_
                clear hK KK
                with_reducible refine class_skipk ?_ ?_
                · first | exact rfl | (go_simp; try simp [undef])
                intro KK hK
                go_simp
                with_reducible refine hK _ ?_
                clear hK KK
                with_reducible refine class_skipk ?_ ?_
                · first | exact rfl | (go_simp; try simp [undef])
                intro KK hK
                go_simp
                with_reducible refine hK _ ?_
                clear hK KK
                with_reducible refine class_skipk ?_ ?_
                · first | exact rfl | (go_simp; try simp [undef])
                intro KK hK
                go_simp
                with_reducible refine hK _ ?_
                clear hK KK
                with_reducible refine class_skipk ?_ ?_
                · first | exact rfl | (go_simp; try simp [undef])
                intro KK hK
                go_simp
                with_reducible refine hK _ ?_
                clear hK KK
                with_reducible refine class_opk (.bool true) ?_ ?_ ?_
                · first | exact rfl | go_simp
                · intro W hW
                  go_simp
                intro KK hK
                go_simp
                with_reducible refine hK _ ?_
                clear hK KK
                go_simp
                intro V hV
                have HVB := Lib.hid (HBk4.out.trans (hV.mono HBk4.out.size))
                have HVO := Lib.hid (HOk4.out.trans (hV.mono HOk4.out.size))
                clear hV
                go_wp2_with fail
                go_ret
                exact ⟨ret_b HV.out.symm, HVB.out⟩
              · have HD1 := Lib.hid hd1
                clear hd1
                rcases hd2 : acT L y.b with _ | _
                · have HD2 := Lib.hid hd2
                  clear hd2
                  have HV : Hid (enB ⟨q, C, L, K, X, z⟩ = false) := Lib.hid (by rw [HEN2.out, HSQ.out, HKA.out, show X.all (fun m => acT L m.a && acT L m.b) = false from all_no HX.out (by show (acT L y.a && acT L y.b) = false; rw [HD1.out, HD2.out]; rfl)]; rfl)
                  go_wp2_with fail
                  clear g0 g1 g2 g3 g4 g5
                  refine class_region wr.heap.size (by kernel_rfl) (by kernel_rfl) ?_
                  with_reducible refine class_opk (.agg #[.bool q, .slice A1 n1 c1, .slice A2 n2 c2, .slice A3 n3 c3, .slice (some ⟨b, o, none⟩) n4 c4, .int .i64 z]) ?_ ?_ ?_
                  · first | exact rfl | go_simp
                  · intro W hW
                    obtain ⟨g0, g1, g2, g3, g4, g5⟩ := HEk4.out.keep (B := wr.heap.size) hlk4 hW
                    go_simp
                  intro KK hK
                  go_simp
                  with_reducible refine hK _ ?_
                  clear hK KK
                  with_reducible refine class_opk (.pointer (some ⟨w.heap.size, 4, none⟩)) ?_ ?_ ?_
                  · first | exact rfl | go_simp
                  · intro W hW
                    go_simp
                  intro KK hK
                  go_simp
                  with_reducible refine hK _ ?_
                  clear hK KK
                  with_reducible refine class_opk (.slice (some ⟨b, o, none⟩) n4 c4) ?_ ?_ ?_
                  · first | exact rfl | go_simp
                  · intro W hW
                    obtain ⟨g0, g1, g2, g3, g4, g5⟩ := HEk4.out.keep (B := wr.heap.size) hlk4 hW
                    go_simp
                  intro KK hK
                  go_simp
                  with_reducible refine hK _ ?_
                  clear hK KK
                  with_reducible refine class_opk (.int .i64 (k4 : Int)) ?_ ?_ ?_
                  · first | exact rfl | go_simp
                  · intro W hW
                    go_simp
                  intro KK hK
                  go_simp
                  with_reducible refine hK _ ?_
                  clear hK KK
                  with_reducible refine class_opk (.pointer (some ⟨b, o + k4 * 2, none⟩)) ?_ ?_ ?_
                  · first | exact rfl | go_simp
                  · intro W hW
                    go_simp
                  intro KK hK
                  go_simp
                  with_reducible refine hK _ ?_
                  clear hK KK
                  with_reducible refine class_opk (.pointer (some ⟨b, o + k4 * 2, none⟩)) ?_ ?_ ?_
                  · first | exact rfl | go_simp
                  · intro W hW
                    go_simp
                  intro KK hK
                  go_simp
                  with_reducible refine hK _ ?_
                  clear hK KK
                  with_reducible refine class_opk (.int .i64 y.a) ?_ ?_ ?_
                  · first | exact rfl | go_simp
                  · intro W hW
                    obtain ⟨y0, y1⟩ := HY.out.of_block (hW.block b hbs)
                    go_simp
                  intro KK hK
                  go_simp
                  with_reducible refine hK _ ?_
                  clear hK KK
                  with_reducible refine class_opk (.bool true) ?_ ?_ ?_
                  · first | exact rfl | go_simp
                  · intro W hW
                    go_simp
                    refine class_call hW ?_
                    have hc := HACT.out W y.a (HBk4.out.trans (hW.mono HBk4.out.size))
                    rw [HD1.out] at hc
                    exact hc
                  intro KK hK
                  go_simp
                  with_reducible refine hK _ ?_
                  clear hK KK
                  with_reducible refine class_opk (.bool false) ?_ ?_ ?_
                  · first | exact rfl | go_simp
                  · intro W hW
                    go_simp
                  intro KK hK
                  go_simp
                  with_reducible refine hK _ ?_
                  clear hK KK
                  with_reducible refine class_opk (.bool false) ?_ ?_ ?_
                  · first | exact rfl | go_simp
                  · intro W hW
                    go_simp
                  intro KK hK
                  go_simp
                  with_reducible refine hK _ ?_
                  clear hK KK
                  with_reducible refine class_opk (.agg #[.bool q, .slice A1 n1 c1, .slice A2 n2 c2, .slice A3 n3 c3, .slice (some ⟨b, o, none⟩) n4 c4, .int .i64 z]) ?_ ?_ ?_
                  · first | exact rfl | go_simp
                  · intro W hW
                    obtain ⟨g0, g1, g2, g3, g4, g5⟩ := HEk4.out.keep (B := wr.heap.size) hlk4 hW
                    go_simp
                  intro KK hK
                  go_simp
                  with_reducible refine hK _ ?_
                  clear hK KK
                  with_reducible refine class_opk (.pointer (some ⟨w.heap.size, 4, none⟩)) ?_ ?_ ?_
                  · first | exact rfl | go_simp
                  · intro W hW
                    go_simp
                  intro KK hK
                  go_simp
                  with_reducible refine hK _ ?_
                  clear hK KK
                  with_reducible refine class_opk (.slice (some ⟨b, o, none⟩) n4 c4) ?_ ?_ ?_
                  · first | exact rfl | go_simp
                  · intro W hW
                    obtain ⟨g0, g1, g2, g3, g4, g5⟩ := HEk4.out.keep (B := wr.heap.size) hlk4 hW
                    go_simp
                  intro KK hK
                  go_simp
                  with_reducible refine hK _ ?_
                  clear hK KK
                  with_reducible refine class_opk (.int .i64 (k4 : Int)) ?_ ?_ ?_
                  · first | exact rfl | go_simp
                  · intro W hW
                    go_simp
                  intro KK hK
                  go_simp
                  with_reducible refine hK _ ?_
                  clear hK KK
                  with_reducible refine class_opk (.pointer (some ⟨b, o + k4 * 2, none⟩)) ?_ ?_ ?_
                  · first | exact rfl | go_simp
                  · intro W hW
                    go_simp
                  intro KK hK
                  go_simp
                  with_reducible refine hK _ ?_
                  clear hK KK
                  with_reducible refine class_opk (.pointer (some ⟨b, o + k4 * 2 + 1, none⟩)) ?_ ?_ ?_
                  · first | exact rfl | go_simp
                  · intro W hW
                    go_simp
                  intro KK hK
                  go_simp
                  with_reducible refine hK _ ?_
                  clear hK KK
                  with_reducible refine class_opk (.int .i64 y.b) ?_ ?_ ?_
                  · first | exact rfl | go_simp
                  · intro W hW
                    obtain ⟨y0, y1⟩ := HY.out.of_block (hW.block b hbs)
                    go_simp
                  intro KK hK
                  go_simp
                  with_reducible refine hK _ ?_
                  clear hK KK
                  with_reducible refine class_opk (.bool false) ?_ ?_ ?_
                  · first | exact rfl | go_simp
                  · intro W hW
                    go_simp
                    refine class_call hW ?_
                    have hc := HACT.out W y.b (HBk4.out.trans (hW.mono HBk4.out.size))
                    rw [HD2.out] at hc
                    exact hc
                  intro KK hK
                  go_simp
                  with_reducible refine hK _ ?_
                  clear hK KK
                  with_reducible refine class_opk (.bool true) ?_ ?_ ?_
                  · first | exact rfl | go_simp
                  · intro W hW
                    go_simp
                  intro KK hK
                  go_simp
                  with_reducible refine hK _ ?_
                  clear hK KK
                  with_reducible refine class_opk (.bool true) ?_ ?_ ?_
                  · first | exact rfl | go_simp
                  · intro W hW
                    go_simp
                  intro KK hK
                  go_simp
                  with_reducible refine hK _ ?_
                  clear hK KK
                  go_simp
                  intro V hV
                  have HVB := Lib.hid (HBk4.out.trans (hV.mono HBk4.out.size))
                  have HVO := Lib.hid (HOk4.out.trans (hV.mono HOk4.out.size))
                  clear hV
                  go_wp2_with fail
                  go_ret
                  exact ⟨ret_b HV.out.symm, HVB.out⟩
                · have HD2 := Lib.hid hd2
                  clear hd2
                  go_wp2_with fail
                  clear g0 g1 g2 g3 g4 g5
                  refine class_region wr.heap.size (by kernel_rfl) (by kernel_rfl) ?_
                  with_reducible refine class_opk (.agg #[.bool q, .slice A1 n1 c1, .slice A2 n2 c2, .slice A3 n3 c3, .slice (some ⟨b, o, none⟩) n4 c4, .int .i64 z]) ?_ ?_ ?_
                  · first | exact rfl | go_simp
                  · intro W hW
                    obtain ⟨g0, g1, g2, g3, g4, g5⟩ := HEk4.out.keep (B := wr.heap.size) hlk4 hW
                    go_simp
                  intro KK hK
                  go_simp
                  with_reducible refine hK _ ?_
                  clear hK KK
                  with_reducible refine class_opk (.pointer (some ⟨w.heap.size, 4, none⟩)) ?_ ?_ ?_
                  · first | exact rfl | go_simp
                  · intro W hW
                    go_simp
                  intro KK hK
                  go_simp
                  with_reducible refine hK _ ?_
                  clear hK KK
                  with_reducible refine class_opk (.slice (some ⟨b, o, none⟩) n4 c4) ?_ ?_ ?_
                  · first | exact rfl | go_simp
                  · intro W hW
                    obtain ⟨g0, g1, g2, g3, g4, g5⟩ := HEk4.out.keep (B := wr.heap.size) hlk4 hW
                    go_simp
                  intro KK hK
                  go_simp
                  with_reducible refine hK _ ?_
                  clear hK KK
                  with_reducible refine class_opk (.int .i64 (k4 : Int)) ?_ ?_ ?_
                  · first | exact rfl | go_simp
                  · intro W hW
                    go_simp
                  intro KK hK
                  go_simp
                  with_reducible refine hK _ ?_
                  clear hK KK
                  with_reducible refine class_opk (.pointer (some ⟨b, o + k4 * 2, none⟩)) ?_ ?_ ?_
                  · first | exact rfl | go_simp
                  · intro W hW
                    go_simp
                  intro KK hK
                  go_simp
                  with_reducible refine hK _ ?_
                  clear hK KK
                  with_reducible refine class_opk (.pointer (some ⟨b, o + k4 * 2, none⟩)) ?_ ?_ ?_
                  · first | exact rfl | go_simp
                  · intro W hW
                    go_simp
                  intro KK hK
                  go_simp
                  with_reducible refine hK _ ?_
                  clear hK KK
                  with_reducible refine class_opk (.int .i64 y.a) ?_ ?_ ?_
                  · first | exact rfl | go_simp
                  · intro W hW
                    obtain ⟨y0, y1⟩ := HY.out.of_block (hW.block b hbs)
                    go_simp
                  intro KK hK
                  go_simp
                  with_reducible refine hK _ ?_
                  clear hK KK
                  with_reducible refine class_opk (.bool true) ?_ ?_ ?_
                  · first | exact rfl | go_simp
                  · intro W hW
                    go_simp
                    refine class_call hW ?_
                    have hc := HACT.out W y.a (HBk4.out.trans (hW.mono HBk4.out.size))
                    rw [HD1.out] at hc
                    exact hc
                  intro KK hK
                  go_simp
                  with_reducible refine hK _ ?_
                  clear hK KK
                  with_reducible refine class_opk (.bool false) ?_ ?_ ?_
                  · first | exact rfl | go_simp
                  · intro W hW
                    go_simp
                  intro KK hK
                  go_simp
                  with_reducible refine hK _ ?_
                  clear hK KK
                  with_reducible refine class_opk (.bool false) ?_ ?_ ?_
                  · first | exact rfl | go_simp
                  · intro W hW
                    go_simp
                  intro KK hK
                  go_simp
                  with_reducible refine hK _ ?_
                  clear hK KK
                  with_reducible refine class_opk (.agg #[.bool q, .slice A1 n1 c1, .slice A2 n2 c2, .slice A3 n3 c3, .slice (some ⟨b, o, none⟩) n4 c4, .int .i64 z]) ?_ ?_ ?_
                  · first | exact rfl | go_simp
                  · intro W hW
                    obtain ⟨g0, g1, g2, g3, g4, g5⟩ := HEk4.out.keep (B := wr.heap.size) hlk4 hW
                    go_simp
                  intro KK hK
                  go_simp
                  with_reducible refine hK _ ?_
                  clear hK KK
                  with_reducible refine class_opk (.pointer (some ⟨w.heap.size, 4, none⟩)) ?_ ?_ ?_
                  · first | exact rfl | go_simp
                  · intro W hW
                    go_simp
                  intro KK hK
                  go_simp
                  with_reducible refine hK _ ?_
                  clear hK KK
                  with_reducible refine class_opk (.slice (some ⟨b, o, none⟩) n4 c4) ?_ ?_ ?_
                  · first | exact rfl | go_simp
                  · intro W hW
                    obtain ⟨g0, g1, g2, g3, g4, g5⟩ := HEk4.out.keep (B := wr.heap.size) hlk4 hW
                    go_simp
                  intro KK hK
                  go_simp
                  with_reducible refine hK _ ?_
                  clear hK KK
                  with_reducible refine class_opk (.int .i64 (k4 : Int)) ?_ ?_ ?_
                  · first | exact rfl | go_simp
                  · intro W hW
                    go_simp
                  intro KK hK
                  go_simp
                  with_reducible refine hK _ ?_
                  clear hK KK
                  with_reducible refine class_opk (.pointer (some ⟨b, o + k4 * 2, none⟩)) ?_ ?_ ?_
                  · first | exact rfl | go_simp
                  · intro W hW
                    go_simp
                  intro KK hK
                  go_simp
                  with_reducible refine hK _ ?_
                  clear hK KK
                  with_reducible refine class_opk (.pointer (some ⟨b, o + k4 * 2 + 1, none⟩)) ?_ ?_ ?_
                  · first | exact rfl | go_simp
                  · intro W hW
                    go_simp
                  intro KK hK
                  go_simp
                  with_reducible refine hK _ ?_
                  clear hK KK
                  with_reducible refine class_opk (.int .i64 y.b) ?_ ?_ ?_
                  · first | exact rfl | go_simp
                  · intro W hW
                    obtain ⟨y0, y1⟩ := HY.out.of_block (hW.block b hbs)
                    go_simp
                  intro KK hK
                  go_simp
                  with_reducible refine hK _ ?_
                  clear hK KK
                  with_reducible refine class_opk (.bool true) ?_ ?_ ?_
                  · first | exact rfl | go_simp
                  · intro W hW
                    go_simp
                    refine class_call hW ?_
                    have hc := HACT.out W y.b (HBk4.out.trans (hW.mono HBk4.out.size))
                    rw [HD2.out] at hc
                    exact hc
                  intro KK hK
                  go_simp
                  with_reducible refine hK _ ?_
                  clear hK KK
                  with_reducible refine class_opk (.bool false) ?_ ?_ ?_
                  · first | exact rfl | go_simp
                  · intro W hW
                    go_simp
                  intro KK hK
                  go_simp
                  with_reducible refine hK _ ?_
                  clear hK KK
                  with_reducible refine class_opk (.bool false) ?_ ?_ ?_
                  · first | exact rfl | go_simp
                  · intro W hW
                    go_simp
                  intro KK hK
                  go_simp
                  with_reducible refine hK _ ?_
                  clear hK KK
                  go_simp
                  intro V hV
                  have HVB := Lib.hid (HBk4.out.trans (hV.mono HBk4.out.size))
                  have HVO := Lib.hid (HOk4.out.trans (hV.mono HOk4.out.size))
                  clear hV
                  go_wp2_with fail
                  go_roundw
                  case rel => exact ⟨k4 + 1, by omega, by go_num, all_step HPk4.out HX.out (by show (acT L y.a && acT L y.b) = true; rw [HD1.out, HD2.out]; rfl), HVO.out⟩
                  case measure => simp [intOf]; omega
            · obtain rfl : n4 = k4 := by omega
              have HXA : Hid (X.all (fun m => acT L m.a && acT L m.b) = true) := Lib.hid (all_yes HLX.out HPk4.out)
              have HV : Hid (enB ⟨q, C, L, K, X, z⟩ = true) := Lib.hid (by rw [HEN2.out, HSQ.out, HKA.out, HXA.out]; rfl)
              go_wp2_with fail
              go_ret
              exact ⟨ret_b HV.out.symm, HBk4.out⟩
end Go.Proofs.YtjnlbhmddhpmaaaGreat.ive
/- A law's argument that is a version, or a slice of versions: what it holds. -/
namespace Go.Proofs.YtjnlbhmddhpmaaaGreat.opn
open Go.ChangeShapes Go.WideShapes Go.ChangeAt Go.RowKit
open Go.Deep (open_slice add_add)
open Go.Proofs.YtjnlbhmddhpmaaaGreat.vers Go.Proofs.YtjnlbhmddhpmaaaGreat.sl
set_option linter.unusedVariables false
set_option linter.constructorNameAsVariable false
theorem laidOut : laidOutB Tryz.prog = true := by kernel_rfl
section
variable {H : Type} {enc : TypeId × Value → H} {w : World} {base : Nat} {spare : Nat → Bool} {held : Bool}
set_option maxRecDepth 100000 in
theorem five {fuel : Nat} {cs : List Value} {x : DataW H × List MemPlace} (h : DataW.trod enc Tryz.prog w base spare held fuel 123 cs = some x) :
    ∃ v : Ver, cs = [.int .i64 v.a, .int .i64 v.b, .int .i64 v.c, .int .i64 v.d, .int .i64 v.e] := by
  obtain ⟨xs, n, _, _, hlen, hxl, hf⟩ := DataW.trod_struct Tryz.underlying123 h
  have hC : Tryz.prog.cellsOf 123 = 5 := by kernel_rfl
  rw [hC] at hlen
  match cs, hlen with
  | [c0, c1, c2, c3, c4], _ =>
    match xs, hxl with
    | [y0, y1, y2, y3, y4], _ =>
      have g0 := hf 0 _ rfl
      have g1 := hf 1 _ rfl
      have g2 := hf 2 _ rfl
      have g3 := hf 3 _ rfl
      have g4 := hf 4 _ rfl
      obtain ⟨a, ha, _, _⟩ := DataW.trod_int (cs := [c0]) Tryz.underlying3 g0
      obtain ⟨b, hb, _, _⟩ := DataW.trod_int (cs := [c1]) Tryz.underlying3 g1
      obtain ⟨c, hc, _, _⟩ := DataW.trod_int (cs := [c2]) Tryz.underlying3 g2
      obtain ⟨d, hd, _, _⟩ := DataW.trod_int (cs := [c3]) Tryz.underlying3 g3
      obtain ⟨e, he, _, _⟩ := DataW.trod_int (cs := [c4]) Tryz.underlying3 g4
      simp only [List.cons.injEq, and_true] at ha hb hc hd he
      exact ⟨⟨a, b, c, d, e⟩, by rw [ha, hb, hc, hd, he]⟩
set_option maxRecDepth 100000 in
theorem open_version {r : Reach} {b0 : Nat} {v : Value} {d : DataW H} {p : List MemPlace} (hv : Value.okWide Tryz.prog w r b0 123 v) (h : DataW.Trod enc Tryz.prog w base spare held 123 v d p) :
    ∃ x : Ver, v = .agg #[.int .i64 x.a, .int .i64 x.b, .int .i64 x.c, .int .i64 x.d, .int .i64 x.e] := by
  obtain ⟨cs, rfl, hsz⟩ := okWide_struct Tryz.underlying123 hv
  obtain ⟨l⟩ := cs
  obtain ⟨fuel, hf⟩ := h
  obtain ⟨x, hx⟩ := five hf
  refine ⟨x, ?_⟩
  have : l = [.int .i64 x.a, .int .i64 x.b, .int .i64 x.c, .int .i64 x.d, .int .i64 x.e] := hx
  rw [this]
theorem cell_lt {a : Addr} {v : Value} (h : w.cell? a = some v) : a.block < w.heap.size := by
  rcases Nat.lt_or_ge a.block w.heap.size with h' | h'
  · exact h'
  · simp [World.cell?, Array.getElem?_eq_none h'] at h
set_option maxRecDepth 100000 in
theorem open_versions {A : Option Addr} {len cap : Nat} {d : DataW H} {p : List MemPlace} (h : DataW.Trod enc Tryz.prog w base spare held 107 (.slice A len cap) d p) :
    ∃ l : List Ver, Vs w w.heap.size A len l ∧ len ≤ maxLen := by
  obtain ⟨fuel, hf⟩ := h
  rcases open_slice Tryz.underlying107 hf with ⟨hcs, _⟩ | ⟨a, len', cap', m, n, D, Pl, hcs, _, hl, hm, hmm, _, hi⟩
  · simp [Value.cells] at hcs
    obtain ⟨rfl, rfl, rfl⟩ := hcs
    exact ⟨[], Vs.nil_ _ _ _, by unfold maxLen; omega⟩
  · simp [Value.cells] at hcs
    obtain ⟨rfl, rfl, rfl⟩ := hcs
    have hC : Tryz.prog.cellsOf 123 = 5 := by kernel_rfl
    rw [hC] at hi
    have hle : len ≤ m := by rw [hmm]; split <;> omega
    obtain ⟨b, o, sp⟩ := a
    have hsp0 : 0 < len → sp = none := fun h0 => by
      obtain ⟨cs', hc, ht⟩ := hi 0 (by omega)
      obtain ⟨x, rfl⟩ := five ht
      obtain ⟨_, _, hat⟩ := World.cells?_some hc
      have k0 := hat 0 (by omega)
      exact World.cell?_spot k0
    have hone : ∀ i, i < len → ∃ x : Ver, sp = none ∧ b < w.heap.size ∧ At w b (o + i * 5) x := by
      intro i hil
      obtain ⟨cs', hc, ht⟩ := hi i (by omega)
      obtain ⟨x, rfl⟩ := five ht
      obtain ⟨_, _, hat⟩ := World.cells?_some hc
      have k0 := hat 0 (by omega)
      have k1 := hat 1 (by omega)
      have k2 := hat 2 (by omega)
      have k3 := hat 3 (by omega)
      have k4 := hat 4 (by omega)
      rw [add_add] at k0 k1 k2 k3 k4
      have hsp : sp = none := hsp0 (by omega)
      subst hsp
      have e : ∀ j, (⟨b, o, none⟩ : Addr).add j = ⟨b, o + j, none⟩ := fun j => by unfold Addr.add; split <;> simp_all
      rw [e] at k0 k1 k2 k3 k4
      refine ⟨x, rfl, cell_lt k0, ?_⟩
      refine ⟨?_, ?_, ?_, ?_, ?_⟩
      · simpa using k0
      · simpa [Nat.add_assoc] using k1
      · simpa [Nat.add_assoc] using k2
      · simpa [Nat.add_assoc] using k3
      · simpa [Nat.add_assoc] using k4
    rcases Nat.eq_zero_or_pos len with h0 | h0
    · subst h0
      exact ⟨[], Vs.nil_ _ _ _, by omega⟩
    · have hsp := (hone 0 h0).choose_spec.1
      have hbl := (hone 0 h0).choose_spec.2.1
      subst hsp
      have hone' : ∀ i : Fin len, ∃ x : Ver, At w b (o + i.val * 5) x := fun i => ⟨_, (hone i.val i.isLt).choose_spec.2.2⟩
      refine ⟨List.ofFn fun i => (hone' i).choose, ⟨by simp, fun _ => ⟨b, o, rfl, hbl, fun k x hx => ?_⟩⟩, by omega⟩
      have hk : k < len := by
        rcases Nat.lt_or_ge k len with h' | h'
        · exact h'
        · rw [List.getElem?_eq_none (by simpa using h')] at hx; cases hx
      rw [List.getElem?_eq_getElem (by simpa using hk)] at hx
      simp only [List.getElem_ofFn, Option.some.injEq] at hx
      rw [← hx]
      exact (hone' ⟨k, hk⟩).choose_spec
end
end Go.Proofs.YtjnlbhmddhpmaaaGreat.opn
/- A law's argument that is a store: what it holds. -/
namespace Go.Proofs.YtjnlbhmddhpmaaaGreat.opns
open Go.ChangeShapes Go.WideShapes Go.ChangeAt Go.RowKit
open Go.Deep (open_slice add_add)
open Go.Proofs.YtjnlbhmddhpmaaaGreat.vers Go.Proofs.YtjnlbhmddhpmaaaGreat.sl Go.Proofs.YtjnlbhmddhpmaaaGreat.st Go.Proofs.YtjnlbhmddhpmaaaGreat.opn
set_option linter.unusedVariables false
set_option linter.constructorNameAsVariable false
section
variable {H : Type} {enc : TypeId × Value → H} {w : World} {base : Nat} {spare : Nat → Bool} {held : Bool}
set_option maxRecDepth 100000 in
theorem row_cell {fuel : Nat} {cs : List Value} {x : DataW H × List MemPlace} (h : DataW.trod enc Tryz.prog w base spare held fuel 107 cs = some x) :
    ∃ A n c, cs = [.slice A n c] := by
  rcases open_slice Tryz.underlying107 h with ⟨hcs, _⟩ | ⟨a, len', cap', m, n, D, Pl, hcs, _⟩
  · exact ⟨none, 0, 0, hcs⟩
  · exact ⟨some a, len', cap', hcs⟩
set_option maxRecDepth 100000 in
theorem open_rows {A : Option Addr} {len cap : Nat} {fuel : Nat} {x : DataW H × List MemPlace} (h : DataW.trod enc Tryz.prog w base spare held fuel 22 [.slice A len cap] = some x) :
    ∃ ll : List (List Ver), R0 w w.heap.size A len ll ∧ len ≤ maxLen := by
  rcases open_slice Tryz.underlying22 h with ⟨hcs, _⟩ | ⟨a, len', cap', m, n, D, Pl, hcs, _, hl, hm, hmm, _, hi⟩
  · simp at hcs
    obtain ⟨rfl, rfl, rfl⟩ := hcs
    exact ⟨[], ⟨rfl, fun h => absurd h (by omega)⟩, by unfold maxLen; omega⟩
  · simp at hcs
    obtain ⟨rfl, rfl, rfl⟩ := hcs
    have hC : Tryz.prog.cellsOf 107 = 1 := by kernel_rfl
    rw [hC] at hi
    have hle : len ≤ m := by rw [hmm]; split <;> omega
    obtain ⟨b, o, sp⟩ := a
    have hsp0 : 0 < len → sp = none := fun h0 => by
      obtain ⟨cs', hc, ht⟩ := hi 0 (by omega)
      obtain ⟨A1, n1, c1, rfl⟩ := row_cell ht
      obtain ⟨_, _, hat⟩ := World.cells?_some hc
      exact World.cell?_spot (hat 0 (by omega))
    have hone : ∀ i, i < len → ∃ (l : List Ver) (A' : Option Addr) (n' c' : Nat), sp = none ∧ b < w.heap.size ∧ w.cell? ⟨b, o + i, none⟩ = some (.slice A' n' c') ∧ n' ≤ maxLen ∧ Vs w w.heap.size A' n' l := by
      intro i hil
      obtain ⟨cs', hc, ht⟩ := hi i (by omega)
      obtain ⟨A1, n1, c1, rfl⟩ := row_cell ht
      obtain ⟨_, _, hat⟩ := World.cells?_some hc
      have k0 := hat 0 (by omega)
      rw [add_add] at k0
      have hsp : sp = none := hsp0 (by omega)
      subst hsp
      have e : ∀ j, (⟨b, o, none⟩ : Addr).add j = ⟨b, o + j, none⟩ := fun j => by unfold Addr.add; split <;> simp_all
      rw [e] at k0
      have k1 : w.cell? ⟨b, o + i, none⟩ = some (.slice A1 n1 c1) := by simpa using k0
      obtain ⟨l, hv, hm1⟩ := open_versions (A := A1) (len := n1) (cap := c1) ⟨n, ht⟩
      exact ⟨l, A1, n1, c1, rfl, cell_lt k1, k1, hm1, hv⟩
    rcases Nat.eq_zero_or_pos len with h0 | h0
    · subst h0
      exact ⟨[], ⟨rfl, fun h => absurd h (by omega)⟩, by omega⟩
    · obtain ⟨_, _, _, _, hsp, hbl, _⟩ := hone 0 h0
      subst hsp
      have hone' : ∀ i : Fin len, ∃ (l : List Ver), ∃ (A' : Option Addr) (n' c' : Nat), w.cell? ⟨b, o + i.val, none⟩ = some (.slice A' n' c') ∧ n' ≤ maxLen ∧ Vs w w.heap.size A' n' l := fun i => by
        obtain ⟨l, A', n', c', _, _, h1, h2, h3⟩ := hone i.val i.isLt
        exact ⟨l, A', n', c', h1, h2, h3⟩
      refine ⟨List.ofFn fun i => (hone' i).choose, ⟨by simp, fun _ => ⟨b, o, rfl, hbl, fun k x hx => ?_⟩⟩, by omega⟩
      have hk : k < len := by
        rcases Nat.lt_or_ge k len with h' | h'
        · exact h'
        · rw [List.getElem?_eq_none (by simpa using h')] at hx; cases hx
      rw [List.getElem?_eq_getElem (by simpa using hk)] at hx
      simp only [List.getElem_ofFn, Option.some.injEq] at hx
      rw [← hx]
      exact (hone' ⟨k, hk⟩).choose_spec
set_option maxRecDepth 100000 in
theorem open_store {r : Reach} {b0 : Nat} {v : Value} {d : DataW H} {p : List MemPlace} (hv : Value.okWide Tryz.prog w r b0 24 v) (h : DataW.Trod enc Tryz.prog w base spare held 24 v d p) :
    ∃ (A : Option Addr) (len cap : Nat) (ll : List (List Ver)), v = .agg #[.slice A len cap] ∧ R0 w w.heap.size A len ll ∧ len ≤ maxLen := by
  obtain ⟨cs, rfl, hsz⟩ := okWide_struct Tryz.underlying24 hv
  obtain ⟨l⟩ := cs
  obtain ⟨fuel, hf⟩ := h
  obtain ⟨y0, n, _, hlen, h0⟩ := trod_struct1 Tryz.underlying24 hf
  have hC : Tryz.prog.cellsOf 24 = 1 := by kernel_rfl
  have hC2 : Tryz.prog.cellsOf 22 = 1 := by kernel_rfl
  rw [hC] at hlen
  change l.length = 1 at hlen
  match l, hlen with
  | [c0], _ =>
    have h1 : DataW.trod enc Tryz.prog w base spare held n 22 [c0] = some y0 := by
      simpa [hC2, Value.cells] using h0
    have h2 : ∃ A len cap, c0 = .slice A len cap := by
      rcases open_slice Tryz.underlying22 h1 with ⟨hcs, _⟩ | ⟨a, len', cap', m, n, D, Pl, hcs, _⟩
      · simp at hcs; exact ⟨none, 0, 0, hcs⟩
      · simp at hcs; exact ⟨some a, len', cap', hcs⟩
    obtain ⟨A, len, cap, rfl⟩ := h2
    obtain ⟨ll, hr, hm⟩ := open_rows h1
    exact ⟨A, len, cap, ll, rfl, hr, hm⟩
end
end Go.Proofs.YtjnlbhmddhpmaaaGreat.opns
namespace Go.Proofs.YtjnlbhmddhpmaaaGreat.opt
open Go.ChangeShapes Go.WideShapes Go.ChangeAt Go.RowKit
open Go.Deep (open_slice add_add)
open Go.Proofs.YtjnlbhmddhpmaaaGreat.el2 Go.Proofs.YtjnlbhmddhpmaaaGreat.tx Go.Proofs.YtjnlbhmddhpmaaaGreat.ts
open Go.Proofs.YtjnlbhmddhpmaaaGreat.mkr (Tr)
open Go.Proofs.YtjnlbhmddhpmaaaGreat.sl (Ver)
open Go.Proofs.YtjnlbhmddhpmaaaGreat.st (R0)
open Go.Proofs.YtjnlbhmddhpmaaaGreat.opns (open_rows)
open Go.Proofs.YtjnlbhmddhpmaaaGreat.rLock (cell_lt)
set_option linter.unusedVariables false
set_option linter.constructorNameAsVariable false
section
variable {H : Type} {enc : TypeId × Value → H} {w : World} {base : Nat} {spare : Nat → Bool} {held : Bool}
set_option maxRecDepth 100000 in
set_option maxHeartbeats 1600000 in
theorem open_txs {fuel : Nat} {x : DataW H × List MemPlace} {A : Option Addr} {len cap : Nat} (hf : DataW.trod enc Tryz.prog w base spare held fuel 25 [.slice A len cap] = some x) :
    ∃ L : List Tr, Ts maxLen w w.heap.size A len L ∧ len ≤ maxLen := by
  rcases open_slice Tryz.underlying25 hf with ⟨hcs, _⟩ | ⟨a, len', cap', m, n, D, Pl, hcs, _, hl, hm, hmm, _, hi⟩
  · simp at hcs
    obtain ⟨rfl, rfl, rfl⟩ := hcs
    exact ⟨[], Ts.nil_ _ _ _ _, by unfold maxLen; omega⟩
  · simp at hcs
    obtain ⟨rfl, rfl, rfl⟩ := hcs
    have hC : Tryz.prog.cellsOf 77 = 9 := by kernel_rfl
    rw [hC] at hi
    have hle : len ≤ m := by rw [hmm]; split <;> omega
    obtain ⟨b, o, sp⟩ := a
    have hsp0 : 0 < len → sp = none := fun h0 => by
      obtain ⟨cs', hc, ht⟩ := hi 0 (by omega)
      obtain ⟨x, A1, n1, c1, R, A2, n2, c2, S, rfl, _⟩ := cells_tx ht
      obtain ⟨_, _, hat⟩ := World.cells?_some hc
      have k0 := hat 0 (by omega)
      exact World.cell?_spot k0
    have hone : ∀ i, i < len → ∃ t : Tr, sp = none ∧ b < w.heap.size ∧ TC maxLen w w.heap.size b (o + i * 9) t := by
      intro i hil
      obtain ⟨cs', hc, ht⟩ := hi i (by omega)
      obtain ⟨x, A1, n1, c1, R, A2, n2, c2, S, rfl, hv1, hm1, hv2, hm2⟩ := cells_tx ht
      obtain ⟨_, _, hat⟩ := World.cells?_some hc
      have k0 := hat 0 (by omega)
      have k1 := hat 1 (by omega)
      have k2 := hat 2 (by omega)
      have k3 := hat 3 (by omega)
      have k4 := hat 4 (by omega)
      have k5 := hat 5 (by omega)
      have k6 := hat 6 (by omega)
      have k7 := hat 7 (by omega)
      have k8 := hat 8 (by omega)
      rw [add_add] at k0 k1 k2 k3 k4 k5 k6 k7 k8
      have hsp : sp = none := hsp0 (by omega)
      subst hsp
      have e : ∀ j, (⟨b, o, none⟩ : Addr).add j = ⟨b, o + j, none⟩ := fun j => by unfold Addr.add; split <;> simp_all
      rw [e] at k0 k1 k2 k3 k4 k5 k6 k7 k8
      refine ⟨⟨x, R, S⟩, rfl, cell_lt k0, A1, n1, c1, A2, n2, c2, ⟨?_, ?_, ?_, ?_, ?_, ?_, ?_, ?_, ?_⟩, hm1, hm2, hv1, hv2⟩
      · simpa using k0
      · simpa [Nat.add_assoc] using k1
      · simpa [Nat.add_assoc] using k2
      · simpa [Nat.add_assoc] using k3
      · simpa [Nat.add_assoc] using k4
      · simpa [Nat.add_assoc] using k5
      · simpa [Nat.add_assoc] using k6
      · simpa [Nat.add_assoc] using k7
      · simpa [Nat.add_assoc] using k8
    rcases Nat.eq_zero_or_pos len with h0 | h0
    · subst h0
      exact ⟨[], Ts.nil_ _ _ _ _, by omega⟩
    · have hsp := (hone 0 h0).choose_spec.1
      have hbl := (hone 0 h0).choose_spec.2.1
      subst hsp
      have hone' : ∀ i : Fin len, ∃ t : Tr, TC maxLen w w.heap.size b (o + i.val * 9) t := fun i => ⟨_, (hone i.val i.isLt).choose_spec.2.2⟩
      refine ⟨List.ofFn fun i => (hone' i).choose, ⟨by simp, fun _ => ⟨b, o, rfl, hbl, fun k x hx => ?_⟩⟩, by omega⟩
      have hk : k < len := by
        rcases Nat.lt_or_ge k len with h' | h'
        · exact h'
        · rw [List.getElem?_eq_none (by simpa using h')] at hx; cases hx
      rw [List.getElem?_eq_getElem (by simpa using hk)] at hx
      simp only [List.getElem_ofFn, Option.some.injEq] at hx
      rw [← hx]
      exact (hone' ⟨k, hk⟩).choose_spec
set_option maxRecDepth 100000 in
theorem sl_tx {fuel : Nat} {cs : List Value} {x : DataW H × List MemPlace} (h : DataW.trod enc Tryz.prog w base spare held fuel 25 cs = some x) : ∃ A n c, cs = [.slice A n c] := by
  rcases open_slice Tryz.underlying25 h with ⟨hcs, _⟩ | ⟨a, len', cap', m, n, D, Pl, hcs, _⟩
  · exact ⟨none, 0, 0, hcs⟩
  · exact ⟨some a, len', cap', hcs⟩
set_option maxRecDepth 100000 in
theorem sl_lk {fuel : Nat} {cs : List Value} {x : DataW H × List MemPlace} (h : DataW.trod enc Tryz.prog w base spare held fuel 26 cs = some x) : ∃ A n c, cs = [.slice A n c] := by
  rcases open_slice Tryz.underlying26 h with ⟨hcs, _⟩ | ⟨a, len', cap', m, n, D, Pl, hcs, _⟩
  · exact ⟨none, 0, 0, hcs⟩
  · exact ⟨some a, len', cap', hcs⟩
set_option maxRecDepth 100000 in
theorem sl_wt {fuel : Nat} {cs : List Value} {x : DataW H × List MemPlace} (h : DataW.trod enc Tryz.prog w base spare held fuel 27 cs = some x) : ∃ A n c, cs = [.slice A n c] := by
  rcases open_slice Tryz.underlying27 h with ⟨hcs, _⟩ | ⟨a, len', cap', m, n, D, Pl, hcs, _⟩
  · exact ⟨none, 0, 0, hcs⟩
  · exact ⟨some a, len', cap', hcs⟩
set_option maxRecDepth 100000 in
theorem sl_st {fuel : Nat} {c0 : Value} {x : DataW H × List MemPlace} (h : DataW.trod enc Tryz.prog w base spare held fuel 24 [c0] = some x) : ∃ (A : Option Addr) (n c : Nat) (C : List (List Ver)), c0 = .slice A n c ∧ R0 w w.heap.size A n C ∧ n ≤ maxLen := by
  obtain ⟨y0, n, _, hlen, h0⟩ := trod_struct1 Tryz.underlying24 h
  have hC2 : Tryz.prog.cellsOf 22 = 1 := by kernel_rfl
  have h1 : DataW.trod enc Tryz.prog w base spare held n 22 [c0] = some y0 := by simpa [hC2, Value.cells] using h0
  have h2 : ∃ A len cap, c0 = .slice A len cap := by
    rcases open_slice Tryz.underlying22 h1 with ⟨hcs, _⟩ | ⟨a, len', cap', m, n, D, Pl, hcs, _⟩
    · simp at hcs; exact ⟨none, 0, 0, hcs⟩
    · simp at hcs; exact ⟨some a, len', cap', hcs⟩
  obtain ⟨A, len, cap, rfl⟩ := h2
  obtain ⟨C, hr, hm⟩ := open_rows h1
  exact ⟨A, len, cap, C, rfl, hr, hm⟩
set_option maxRecDepth 100000 in
set_option maxHeartbeats 1600000 in
theorem open_engine {r : Reach} {b0 : Nat} {v : Value} {d : DataW H} {p : List MemPlace} (hv : Value.okWide Tryz.prog w r b0 29 v) (h : DataW.Trod enc Tryz.prog w base spare held 29 v d p) :
    ∃ (q : Bool) (A1 : Option Addr) (n1 c1 : Nat) (C : List (List Ver)) (A2 : Option Addr) (n2 c2 : Nat) (L : List Tr) (A3 : Option Addr) (n3 c3 : Nat) (K : List E2) (A4 : Option Addr) (n4 c4 : Nat) (X : List E2) (z : Int), v = .agg #[.bool q, .slice A1 n1 c1, .slice A2 n2 c2, .slice A3 n3 c3, .slice A4 n4 c4, .int .i64 z] ∧ R0 w w.heap.size A1 n1 C ∧ n1 ≤ maxLen ∧ Ts maxLen w w.heap.size A2 n2 L ∧ n2 ≤ maxLen ∧ Vs w w.heap.size A3 n3 K ∧ n3 ≤ maxLen ∧ Vs w w.heap.size A4 n4 X ∧ n4 ≤ maxLen ∧ (Lit.int .i64 z).wf = true := by
  obtain ⟨cs, rfl, hsz⟩ := okWide_struct Tryz.underlying29 hv
  obtain ⟨l⟩ := cs
  obtain ⟨fuel, hf⟩ := h
  obtain ⟨xs, n, _, _, hlen, hxl, hf⟩ := DataW.trod_struct Tryz.underlying29 hf
  have hC : Tryz.prog.cellsOf 29 = 6 := by kernel_rfl
  rw [hC] at hlen
  change l.length = 6 at hlen
  match l, hlen with
  | [d0, d1, d2, d3, d4, d5], _ =>
    match xs, hxl with
    | [y0, y1, y2, y3, y4, y5], _ =>
      have g0 := hf 0 _ rfl
      have g1 := hf 1 _ rfl
      have g2 := hf 2 _ rfl
      have g3 := hf 3 _ rfl
      have g4 := hf 4 _ rfl
      have g5 := hf 5 _ rfl
      obtain ⟨q, ha0, _⟩ := DataW.trod_bool (cs := [d0]) Tryz.underlying4 g0
      obtain ⟨A1, n1, c1, C, ha1, hs, hn1⟩ := sl_st (c0 := d1) g1
      obtain ⟨A2, n2, c2, ha2⟩ := sl_tx (cs := [d2]) g2
      obtain ⟨A3, n3, c3, ha3⟩ := sl_lk (cs := [d3]) g3
      obtain ⟨A4, n4, c4, ha4⟩ := sl_wt (cs := [d4]) g4
      obtain ⟨z, ha5, _, hz⟩ := DataW.trod_int (cs := [d5]) Tryz.underlying3 g5
      simp only [List.cons.injEq, and_true] at ha0 ha2 ha3 ha4 ha5
      subst ha0 ha1 ha2 ha3 ha4 ha5
      obtain ⟨L, ht, hn2⟩ := open_txs (A := A2) (len := n2) (cap := c2) g2
      obtain ⟨K, hk, hn3⟩ := Go.Proofs.YtjnlbhmddhpmaaaGreat.rLock.open_row (A := A3) (len := n3) (cap := c3) g3
      obtain ⟨X, hx, hn4⟩ := Go.Proofs.YtjnlbhmddhpmaaaGreat.rWait.open_row (A := A4) (len := n4) (cap := c4) g4
      exact ⟨q, A1, n1, c1, C, A2, n2, c2, L, A3, n3, c3, K, A4, n4, c4, X, z, rfl, hs, hn1, ht, hn2, hk, hn3, hx, hn4, hz⟩
end
end Go.Proofs.YtjnlbhmddhpmaaaGreat.opt
