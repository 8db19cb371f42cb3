/- At every code, that is at every drawn list of locks, key and owner, the law FnLocks answers true and writes nothing that was there: a lock that is granted has its owner, is refused to others and is free after the release. No condition. -/
import Derived.Test.YthbbpfgjbidbhaaLk
import Derived.Test.YthbbpfgjbidbhaaEl2
import Derived.Test.YthbbpfgjbidbhaaDlk
import Derived.Test.YthbbpfgjbidbhaaLkr
import Derived.Laws.StructEq
import Derived.WalkKit
import Derived.ProofKit
import Derived.OpenShut
import Derived.ShutString
import Derived.ChangeOld
import Derived.Below
import Derived.Carry
import Derived.Lib.Hide
import Derived.StillTailTactics
import Derived.Deep.RegionHeld3
import Derived.Deep.DeepHandedRow
/- How long a list of locks is behind an acquisition. -/
namespace Go.Proofs.Ythbbpfgjbidbhaa.lkm
open Go.Proofs.Ythbbpfgjbidbhaa.el2 Go.Proofs.Ythbbpfgjbidbhaa.lk
theorem ac_small (l : List E2) (key o : Int) : (acL l key o).length ≤ max l.length 7 := by
  have h1 := ac_len l key o
  by_cases h : acB l key o = true
  · have := lk_len (ac_parts h).1
    omega
  · unfold acL
    rw [if_neg fun hh => h hh.1]
    omega
end Go.Proofs.Ythbbpfgjbidbhaa.lkm
/- A row of two-integer structs of one's own reads as its list. -/
namespace Go.Proofs.Ythbbpfgjbidbhaa.vow
open Go.Proofs.Ythbbpfgjbidbhaa.el2
theorem vs_ownk {w : World} {e : TypeId} {base n c : Nat} {A : Option Addr} {l : List E2} (h : w.ownsRow base e 2 (.slice A n c) n (flat l)) (hl : l.length = n) : Vs w w.heap.size A n l := by
  obtain ⟨A', c', h9, hv, _⟩ := own_vs h hl
  injection h9 with e1 _ _
  subst e1
  exact hv
end Go.Proofs.Ythbbpfgjbidbhaa.vow
/- FnLocks: the walk at a code that is not too long. -/
namespace Go.Proofs.Ythbbpfgjbidbhaa.flk
open Go.ChangeShapes Go.WideShapes Go.ChangeAt Go.RowKit
open Go.Proofs.Ythbbpfgjbidbhaa.el2 Go.Proofs.Ythbbpfgjbidbhaa.ap Go.Proofs.Ythbbpfgjbidbhaa.lk Go.Proofs.Ythbbpfgjbidbhaa.ints
open Go.Proofs.Ythbbpfgjbidbhaa.cur (CurAt CodeAt big_no)
open Go.Proofs.Ythbbpfgjbidbhaa.owi (mi OwI)
open Go.Proofs.Ythbbpfgjbidbhaa.vow (vs_ownk)
set_option linter.unusedVariables false
set_option linter.unusedSimpArgs false
theorem held_lk : Try.prog.stoodInHeld 31 = false := by kernel_rfl
theorem fields_lk : Try.prog.underlying 31 = some (.struct (Try.prog.fieldsOf 31)) := by kernel_rfl
theorem neq_same (x : E2) (w : World) : (binOp .neq 31 (.agg #[.int .i64 x.a, .int .i64 x.b]) (.agg #[.int .i64 x.a, .int .i64 x.b])).run Try.prog w = .ok (.bool false) w := by
  rw [run_neq_struct, run_equalIn_struct w 9999 31 _ _ fields_lk held_lk]
  have hu := Try.underlying31
  have hi := Try.underlying3
  simp only [Program.fieldsOf, hu]
  simp [Op.eqFields, go_sem, hi]
theorem is_own {w : World} {base n c : Nat} {A : Option Addr} {xs : List Int} (h : w.ownsRow base 3 1 (.slice A n c) n (mi xs)) (hl : xs.length = n) (hb : base ≤ w.heap.size) : Is w w.heap.size A n xs :=
  (OwI.of_own (lo := base) (hi := w.heap.size) h hl (Nat.le_refl _) (Nat.le_refl _)).is (Nat.le_refl _)
set_option maxRecDepth 100000 in
set_option maxHeartbeats 1600000 in
theorem has_in {w : World} {B n c : Nat} {A : Option Addr} {xs : List Int} (x : Int) (hn : n ≤ 1048576) (h : Is w B A n xs) (hx : x ∈ xs) :
    Calls Try.prog 17 #[.slice A n c, .int .i64 x] w fun e w' => e = .returned (.bool true) ∧ w = w' := by
  have H := Lib.hid h
  have hln := h.1
  have HX := Lib.hid hx
  clear h hx
  go_enter Try.func17, Try.ntmps17
  go_wp2
  go_loop [5] (fun i => ∃ k : Nat, k ≤ n ∧ i = .int .i64 k ∧ ∀ (j : Nat) (y : Int), j < k → xs[j]? = some y → y ≠ x) (fun i => n - (intOf i).toNat)
  case atStart => exact ⟨0, by omega, rfl, fun j y h => absurd h (by omega)⟩
  case round =>
    obtain ⟨k, hk, rfl, hP⟩ := hrel
    have HP := Lib.hid hP
    clear hP
    by_cases hlt : k < n
    · obtain ⟨b, o, y, rfl, hbB, hy, a0⟩ := H.out.at_ hlt
      have HY := Lib.hid hy
      clear hy
      by_cases hc : y = x
      · have t : (y == x) = true := by simpa using hc
        clear hc
        go_wp2_with fail
        go_ret
        exact ⟨rfl, rfl⟩
      · have t : (y == x) = false := by simpa using hc
        have HC := Lib.hid hc
        clear hc
        go_wp2_with fail
        go_round
        case rel => exact ⟨k + 1, by omega, by go_num, fun j z hj hz => by
          rcases Nat.lt_or_ge j k with h9 | h9
          · exact HP.out j z h9 hz
          · obtain rfl : j = k := by omega
            rw [HY.out] at hz
            injection hz with hz
            subst hz
            exact HC.out⟩
        case measure => simp [intOf]; omega
    · exact absurd HX.out (fun hm => by
        obtain ⟨j, hj, e⟩ := List.getElem_of_mem hm
        exact HP.out j _ (by omega) (List.getElem?_eq_getElem hj) e)
/-- what the law says of the list behind an acquisition -/
structure FX (X : List E2) (k o : Int) : Prop where
  b1 : 1 ≤ o
  b2 : o ≤ 9
  lk : lkB X = true
  own : ownI k X = o
  of_ : k ∈ ofL o X
  free : ownI k (relL o X) = 0
  none_ : ofL o (relL o X) = []
  sum : (relL o X).length + (ofL o X).length = X.length
  again : acB X k o = true
  other : ∀ p, p ≠ o → acB X k p = false
theorem FX.of {l : List E2} {k o : Int} (h : acB l k o = true) : FX (acL l k o) k o where
  b1 := (vers.in_yes (ac_parts h).2.2.1).1
  b2 := (vers.in_yes (ac_parts h).2.2.1).2
  lk := ac_lk h
  own := ac_owner h
  of_ := ac_of h
  free := ac_free h
  none_ := of_rel o _
  sum := rel_of o _
  again := ac_again h
  other := fun p hp => ac_other h hp
theorem ac_no {l : List E2} {k o : Int} (h : acB l k o = false) : acL l k o = l := by
  unfold acL
  rw [h]
  exact if_neg fun hh => by cases hh.1
set_option maxRecDepth 100000 in
set_option maxHeartbeats 12800000 in
theorem core (a : Option Addr) (len cap : Nat) (w : World) (hl : len ≤ 1048576) (hcode : CodeAt w w.heap.size a len) :
    Calls Try.prog 3 #[.slice a len cap] w fun e w' => e = .returned (.bool true) ∧ Below w.heap.size w w' := by
  have BIG := Lib.hid (big_no a len cap w (by omega))
  have HT := Lib.hid (Go.Proofs.Ythbbpfgjbidbhaa.dlk.draw_acq a len cap w hl hcode)
  clear hcode
  go_enter Try.func3, Try.ntmps3
  go_wp2_with fail
  refine BIG.out.mono ?_
  rintro e w' ⟨rfl, rfl⟩
  clear BIG
  go_wp2_with fail
  refine HT.out.mono ?_
  rintro e W1 ⟨A1, n, c1, l, k, o, rfl, hn, hln, hk0, hk1, ho0, ho1, hown, hb1⟩
  have V1 := Lib.hid (vs_ownk hown hln)
  have HB1 := Lib.hid hb1
  have HLN := Lib.hid hln
  clear HT hown hb1 hln
  obtain ⟨X, hX⟩ : ∃ X, acL l k o = X := ⟨_, rfl⟩
  obtain ⟨q, hq⟩ : ∃ q, acB l k o = q := ⟨_, rfl⟩
  obtain ⟨nx, hnx⟩ : ∃ m, X.length = m := ⟨_, rfl⟩
  have hx8 : nx ≤ 7 := by have := Go.Proofs.Ythbbpfgjbidbhaa.lkm.ac_small l k o; rw [hX, hnx] at this; have := HLN.out; omega
  have HX := Lib.hid hX
  have HQ := Lib.hid hq
  have HNX := Lib.hid hnx
  clear hX hq hnx
  go_wp2_with fail
  refine (Go.Proofs.Ythbbpfgjbidbhaa.lkq.impl_acq k o (by omega) V1.out (Nat.le_refl _)).mono ?_
  rintro e W2 ⟨A2, c2, he, ho2, hb2⟩
  rw [HX.out, HQ.out, HNX.out] at he
  rw [HX.out, HNX.out] at ho2
  subst he
  have V2 := Lib.hid (vs_ownk ho2 HNX.out)
  have HB2 := Lib.hid (HB1.out.trans (hb2.mono HB1.out.size))
  have HC2 := Lib.hid hb2
  clear ho2 hb2
  go_wp2_with fail
  refine (Go.Proofs.Ythbbpfgjbidbhaa.lkq.spec_acq k o (by omega) (V1.out.below HC2.out) HC2.out.size).mono ?_
  rintro e W3 ⟨A3, c3, he, ho3, hb3⟩
  rw [HX.out, HQ.out, HNX.out] at he
  rw [HX.out, HNX.out] at ho3
  subst he
  have V3 := Lib.hid (vs_ownk ho3 HNX.out)
  have VX := Lib.hid ((V2.out.below hb3).more hb3.size)
  have VL := Lib.hid ((V1.out.below (HC2.out.trans (hb3.mono HC2.out.size))).more (HC2.out.trans (hb3.mono HC2.out.size)).size)
  have HB3 := Lib.hid (HB2.out.trans (hb3.mono HB2.out.size))
  clear ho3 hb3 V1 V2 HC2 HB1 HB2
  have tqq : (q != q) = false := by cases q <;> rfl
  have tnn : ((nx : Int) != (nx : Int)) = false := by simp
  go_wp2_with fail
  refine (Go.Proofs.Ythbbpfgjbidbhaa.lka.impl_are (by omega) VL.out (Nat.le_refl _)).mono ?_
  rintro e W4 ⟨rfl, hb4⟩
  have HB4 := Lib.hid (HB3.out.trans (hb4.mono HB3.out.size))
  have V34 := Lib.hid ((V3.out.below hb4).more hb4.size)
  have VX4 := Lib.hid ((VX.out.below hb4).more hb4.size)
  have VL4 := Lib.hid ((VL.out.below hb4).more hb4.size)
  clear hb4 V3 VX VL
  go_wp2_with fail
  refine (Go.Proofs.Ythbbpfgjbidbhaa.lka.spec_are (by omega) VL4.out (Nat.le_refl _)).mono ?_
  rintro e W5 ⟨rfl, hb5⟩
  have HB5 := Lib.hid (HB4.out.trans (hb5.mono HB4.out.size))
  have V35 := Lib.hid ((V34.out.below hb5).more hb5.size)
  have VX5 := Lib.hid ((VX4.out.below hb5).more hb5.size)
  clear hb5 V34 VX4 VL4 HB4 HB3
  generalize lkB l = ql
  have tll : (ql != ql) = false := by cases ql <;> rfl
  go_wp2_with fail
  clear tqq tnn tll
  go_loopw [10] (fun i wr => ∃ j : Nat, j ≤ nx ∧ i = .int .i64 j ∧ Below W5.heap.size W5 wr) (fun i _ => nx - (intOf i).toNat)
  case atStart => exact ⟨0, by omega, rfl, Below.refl _ _⟩
  case round =>
    obtain ⟨j, hj, rfl, hbr⟩ := hrel
    have HBR := Lib.hid hbr
    by_cases hlt : j < nx
    · obtain ⟨g1, o1, y1, rfl, hg1, hy1, a0, a1⟩ := (VX5.out.below hbr).at_ hlt
      obtain ⟨g2, o2, y2, rfl, hg2, hy2, b0, b1⟩ := (V35.out.below hbr).at_ hlt
      obtain rfl : y1 = y2 := by rw [hy1] at hy2; exact Option.some.inj hy2
      have hnq := neq_same y1
      have hjn : (j : Int) < (nx : Int) := by omega
      clear hy1 hy2 hbr
      go_wp2_with fail
      go_quiet (fail)
      go_wp2_with fail
      go_roundw
      case rel => exact ⟨j + 1, by omega, by go_num, Go.Proofs.Ythbbpfgjbidbhaa.tv.bdrewN HBR.out _⟩
      case measure => simp [intOf]; omega
    have VR := Lib.hid ((VX5.out.below hbr).more hbr.size)
    have HB6 := Lib.hid (HB5.out.trans (hbr.mono HB5.out.size))
    clear hbr V35 VX5 HB5 HBR
    have hjx : ¬ (j : Int) < (nx : Int) := by omega
    cases q with
    | false =>
      have hnn : ((nx : Int) == (n : Int)) = true := by
        have h1 := HX.out
        rw [ac_no HQ.out] at h1
        have : nx = n := by rw [← HNX.out, ← h1]; exact HLN.out
        simp [this]
      go_wp2_with fail
      go_ret
      exact ⟨rfl, HB6.out⟩
    | true =>
      have HF := Lib.hid (FX.of HQ.out)
      rw [HX.out] at HF
      have hb1 := HF.out.b1
      have hrem : o.tmod 9 = o := Int.tmod_eq_of_lt (by omega) (by omega)
      go_wp2_with fail
      refine (Go.Proofs.Ythbbpfgjbidbhaa.lkq.impl_acq k (o + 1) (by omega) VR.out (Nat.le_refl _)).mono ?_
      rintro e W7 ⟨A7, c7, he, ho7, hb7⟩
      rw [HF.out.other (o + 1) (by omega)] at he
      subst he
      have VR7 := Lib.hid ((VR.out.below hb7).more hb7.size)
      have HB7 := Lib.hid (HB6.out.trans (hb7.mono HB6.out.size))
      clear ho7 hb7 VR HB6 hrem
      go_wp2_with fail
      refine (Go.Proofs.Ythbbpfgjbidbhaa.lkq.impl_acq k o (by omega) VR7.out (Nat.le_refl _)).mono ?_
      rintro e W8 ⟨A8, c8, he, ho8, hb8⟩
      rw [HF.out.again] at he
      subst he
      have VR8 := Lib.hid ((VR7.out.below hb8).more hb8.size)
      have HB8 := Lib.hid (HB7.out.trans (hb8.mono HB7.out.size))
      clear ho8 hb8 VR7 HB7
      go_wp2_with fail
      refine (Go.Proofs.Ythbbpfgjbidbhaa.lkd.impl_rel o (by omega) VR8.out (Nat.le_refl _)).mono ?_
      rintro e W9 ⟨A9, c9, rfl, ho9, hb9⟩
      obtain ⟨nz, hnz⟩ : ∃ m, (relL o X).length = m := ⟨_, rfl⟩
      have hz8 : nz ≤ 7 := by have := rel_len o X; rw [hnz] at this; have := HNX.out; omega
      rw [hnz] at ho9
      rw [hnz]
      have HNZ := Lib.hid hnz
      have VZ9 := Lib.hid (vs_ownk ho9 hnz)
      have VR9 := Lib.hid ((VR8.out.below hb9).more hb9.size)
      have HB9 := Lib.hid (HB8.out.trans (hb9.mono HB8.out.size))
      clear ho9 hb9 VR8 HB8 hnz
      go_wp2_with fail
      refine (Go.Proofs.Ythbbpfgjbidbhaa.lka.impl_are (by omega) VR9.out (Nat.le_refl _)).mono ?_
      rintro e Wa ⟨rfl, hba⟩
      rw [HF.out.lk]
      have VZa := Lib.hid ((VZ9.out.below hba).more hba.size)
      have VRa := Lib.hid ((VR9.out.below hba).more hba.size)
      have HBa := Lib.hid (HB9.out.trans (hba.mono HB9.out.size))
      clear hba VZ9 VR9 HB9
      go_wp2_with fail
      refine (Go.Proofs.Ythbbpfgjbidbhaa.lkr.impl_owner k (by omega) VRa.out (Nat.le_refl _)).mono ?_
      rintro e Wb ⟨rfl, hbb⟩
      rw [HF.out.own]
      have VZb := Lib.hid ((VZa.out.below hbb).more hbb.size)
      have VRb := Lib.hid ((VRa.out.below hbb).more hbb.size)
      have HBb := Lib.hid (HBa.out.trans (hbb.mono HBa.out.size))
      clear hbb VZa VRa HBa
      have too : (o == o) = true := by simp
      obtain ⟨nf, hnf⟩ : ∃ m, (ofL o X).length = m := ⟨_, rfl⟩
      have hf8 : nf ≤ 7 := by have := of_len o X; rw [hnf] at this; have := HNX.out; omega
      have HNF := Lib.hid hnf
      clear hnf
      go_wp2_with fail
      refine (Go.Proofs.Ythbbpfgjbidbhaa.lkr.impl_of o (by omega) VRb.out (Nat.le_refl _)).mono ?_
      rintro e Wc ⟨Ac, cc, rfl, hoc, hbc⟩
      rw [HNF.out] at hoc
      rw [HNF.out]
      have ISc := Lib.hid (is_own hoc HNF.out hbc.size)
      have VZc := Lib.hid ((VZb.out.below hbc).more hbc.size)
      have VRc := Lib.hid ((VRb.out.below hbc).more hbc.size)
      have HBc := Lib.hid (HBb.out.trans (hbc.mono HBb.out.size))
      clear hoc hbc VZb VRb HBb
      go_wp2_with fail
      refine (has_in k (by omega) ISc.out HF.out.of_).mono ?_
      rintro e Wc' ⟨rfl, rfl⟩
      go_wp2_with fail
      refine (Go.Proofs.Ythbbpfgjbidbhaa.lkr.impl_owner k (by omega) VZc.out (Nat.le_refl _)).mono ?_
      rintro e Wd ⟨rfl, hbd⟩
      rw [HF.out.free]
      have VZd := Lib.hid ((VZc.out.below hbd).more hbd.size)
      have VRd := Lib.hid ((VRc.out.below hbd).more hbd.size)
      have HBd := Lib.hid (HBc.out.trans (hbd.mono HBc.out.size))
      clear hbd VZc VRc HBc ISc
      go_wp2_with fail
      refine (Go.Proofs.Ythbbpfgjbidbhaa.lkr.impl_of o (by omega) VZd.out (Nat.le_refl _)).mono ?_
      rintro e We ⟨Ae, ce, he, hoe, hbe⟩
      rw [HF.out.none_] at he
      subst he
      have VRe := Lib.hid ((VRd.out.below hbe).more hbe.size)
      have HBe := Lib.hid (HBd.out.trans (hbe.mono HBd.out.size))
      clear hoe hbe VZd VRd HBd
      go_wp2_with fail
      refine (Go.Proofs.Ythbbpfgjbidbhaa.lkr.impl_of o (by omega) VRe.out (Nat.le_refl _)).mono ?_
      rintro e Wf ⟨Af, cf, rfl, hof, hbf⟩
      rw [HNF.out]
      have HBf := Lib.hid (HBe.out.trans (hbf.mono HBe.out.size))
      have hsum : ((nz : Int) + (nf : Int) == (nx : Int)) = true := by
        have := HF.out.sum
        rw [HNZ.out, HNF.out, HNX.out] at this
        rw [beq_iff_eq]
        omega
      clear hof hbf VRe HBe
      go_wp2_with fail
      go_ret
      exact ⟨rfl, HBf.out⟩
end Go.Proofs.Ythbbpfgjbidbhaa.flk
namespace Go.Proofs.Ythbbpfgjbidbhaa.fnLocks
open Go.ChangeShapes Go.WideShapes Go.ChangeAt Go.RowKit
open Go.ChangeMaps (open_string shut_string)
open Go.Proofs.Ythbbpfgjbidbhaa.cur
set_option linter.unusedVariables false
theorem own : ownKnob Try.prog.godebug = none := by kernel_rfl
theorem laidOut : laidOutB Try.prog = true := by kernel_rfl
def IsRow (k : IntKind) (w : World) (a : Option Addr) (len cap : Nat) (zs : List Int) : Prop :=
  (a = none ∧ len = 0 ∧ cap = 0 ∧ zs = []) ∨
  ∃ x, a = some x ∧ len ≤ cap ∧ cap ≤ maxLen ∧ zs.length = cap ∧ (∀ i, i < zs.length → w.cell? (x.add i) = some (.int k (zs.getD i 0))) ∧ ∀ n ∈ zs, (Lit.int k n).wf = true
theorem code_of {w : World} {a : Option Addr} {len cap : Nat} {zs : List Int} (h : IsRow .u8 w a len cap zs) : CodeAt w w.heap.size a len := by
  intro j hj
  rcases h with ⟨rfl, rfl, rfl, rfl⟩ | ⟨x, rfl, hl, hm, hz, hcell, hwz⟩
  · omega
  · obtain ⟨cb, off, spot⟩ := x
    have hc := hcell j (by omega)
    have hspot : spot = none := by
      have h0 := hcell 0 (by omega)
      simpa [Addr.add] using World.cell?_spot h0
    subst hspot
    rw [Addr.add_lit] at hc
    have hmem : zs.getD j 0 ∈ zs := by
      rw [List.getD_eq_getElem?_getD, List.getElem?_eq_getElem (show j < zs.length by omega)]
      exact List.getElem_mem _
    have hb := bounds_u8 (hwz _ hmem)
    exact ⟨cb, off, _, rfl, World.block_lt_of_cell? w _ hc, hb.1, hb.2, hc⟩
theorem walk (a : Option Addr) (len cap : Nat) (zs : List Int) (w : World) (h : IsRow .u8 w a len cap zs) :
    Calls Try.prog 3 #[.slice a len cap] w fun e w' => e = .returned (.bool true) ∧ Below w.heap.size w w' := by
  by_cases hbig : 1048576 < len
  · have BIG := Lib.hid (big_yes a len cap w hbig)
    clear h
    go_enter Try.func3, Try.ntmps3
    go_wp2_with fail
    refine BIG.out.mono ?_
    rintro e w' ⟨rfl, rfl⟩
    go_wp2_with fail
    go_ret
    exact ⟨rfl, Below.refl _ _⟩
  · exact Go.Proofs.Ythbbpfgjbidbhaa.flk.core a len cap w (by omega) (code_of h)
/-! ### THE ROW's STEP -/
set_option maxRecDepth 100000 in
theorem lifted (os : Os) (started : os.Started) (H : Type) (enc : TypeId × Value → H) :
    ReturnsInHanded {} Try.checked os 3 .any (Rows.fnLocksSpec.pre6 enc Try.prog Try.f3 Rows.fnLocksRow.domain false) (Rows.fnLocksSpec.post enc Try.prog Try.f3 false true false false) := by
  refine returnsInHanded_of_change (C := Try.checked) own started (by kernel_rfl) Try.func3
    (ChangeSpec.witness6 (enc := enc) (C := Try.checked) false ⟨#[], #[.slice none 0 0], []⟩ 8 (by kernel_rfl) (by kernel_rfl) (by kernel_rfl) (by kernel_rfl)) ?_
  intro W base args ds gs before hval0 hW hcnd _
  have hval : ∀ (j : Nat) t v, Try.f3.params[j]? = some t → args[j]? = some v → Value.okWide Try.prog W .any base t v := hval0
  have hW' := hW
  obtain ⟨p, q, hA0, hV, rfl, hfz, hnd⟩ := hW
  have hA : DataW.TrodAll enc Try.prog W 0 (fun _ => true) true Try.f3.params.toList args.toList ds p := hA0
  rw [Try.params3] at hA hval
  obtain ⟨v0, vs0, d0, ds0, p0, q0, hargs, rfl, rfl, h0, r0⟩ := trodAll_cons hA
  obtain ⟨rfl, rfl, rfl⟩ := trodAll_nil r0
  obtain rfl : args = #[v0] := by cases args; simp_all
  obtain ⟨rfl, rfl⟩ := trodVars_none hV
  obtain ⟨a0, len0, cap0, rfl⟩ := okWide_slice Try.underlying22 (hval 0 22 v0 rfl rfl)
  have k0 := h0
  have lt0 : ∀ x ∈ p0, x.block < W.heap.size := by obtain ⟨m, hm⟩ := k0; exact DataW.trod_lt m _ _ _ hm
  obtain ⟨z0, w0⟩ : ∃ zs, IsRow .u8 W a0 len0 cap0 zs := by
    obtain ⟨fuel, hf⟩ := h0
    rcases open_ints Try.underlying22 Try.underlying5 (by kernel_rfl) hf with ⟨hcs, _⟩ | ⟨x, l, c, zs, hcs, _, hl, hm, hz, _, hcell, hwz⟩
    · simp [Value.cells] at hcs
      obtain ⟨rfl, rfl, rfl⟩ := hcs
      exact ⟨[], .inl ⟨rfl, rfl, rfl, rfl⟩⟩
    · simp [Value.cells] at hcs
      obtain ⟨rfl, rfl, rfl⟩ := hcs
      exact ⟨zs, .inr ⟨_, rfl, hl, hm, by simpa using hz, hcell, hwz⟩⟩
  clear hA0 hval0
  refine (walk a0 len0 cap0 z0 W w0).mono fun e W' ⟨he, bel⟩ => ?_
  subst he
  exact ⟨_, rfl, _, _, _, [], _, [], hW', trodAll_mk1 (shut_bool Try.underlying4 _), (trodAll_cons_mk (Below.trod laidOut (by kernel_rfl) (of_decide_eq_true (by kernel_rfl)) k0 bel lt0) trodAll_mk0), rfl, bel.frame _, fun h => by cases h⟩

theorem over : Rows.fnLocksRow.holds Try.pinned (OpenSpec.ofChange Rows.fnLocksSpec) :=
  OpenClaim.holds_of_wide 3 Try.f3 rfl rfl rfl rfl rfl rfl rfl ⟨rfl, rfl, rfl, rfl, rfl⟩ rfl rfl rfl rfl rfl (by kernel_rfl) Try.func3 (by kernel_rfl)
    (of_decide_eq_true (by kernel_rfl)) (by unfold Func.isWrapper; first | (rw [if_pos (by decide +kernel)]; kernel_rfl) | (rw [if_neg (by decide +kernel)]; exact ⟨rfl, rfl⟩))
    (fun os started H enc _ => lifted os started H enc)

/-- THE STATEMENT -/
theorem proved : Rows.FnLocksSaid := over
#print axioms proved
end Go.Proofs.Ythbbpfgjbidbhaa.fnLocks
