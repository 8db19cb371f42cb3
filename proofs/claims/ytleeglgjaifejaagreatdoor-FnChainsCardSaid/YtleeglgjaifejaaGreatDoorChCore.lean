/- The law on chains, its calls one after the other: it answers true at every code of at most 1048576 bytes; nothing that was there is written. -/
import Derived.Test.YtleeglgjaifejaaGreatDoorLaw
import Derived.Test.YtleeglgjaifejaaGreatDoorDrawn
import Derived.Test.YtleeglgjaifejaaGreatDoorEq
import Derived.Test.YtleeglgjaifejaaGreatDoorSParse
import Derived.WalkKit
import Derived.ProofKit
import Derived.Below
import Derived.Lib.Hide
import Derived.Outline
import Derived.IntWalk
import Derived.Laws.StructEq
namespace Go.Proofs.YtleeglgjaifejaaGreatDoor.chcore
open Go.ChangeShapes Go.WideShapes Go.ChangeAt Go.RowKit
open Go.Proofs.YtleeglgjaifejaaGreatDoor.vers Go.Proofs.YtleeglgjaifejaaGreatDoor.sl Go.Proofs.YtleeglgjaifejaaGreatDoor.ch Go.Proofs.YtleeglgjaifejaaGreatDoor.find Go.Proofs.YtleeglgjaifejaaGreatDoor.eqs Go.Proofs.YtleeglgjaifejaaGreatDoor.tabs Go.Proofs.YtleeglgjaifejaaGreatDoor.text Go.Proofs.YtleeglgjaifejaaGreatDoor.parse Go.Proofs.YtleeglgjaifejaaGreatDoor.flat Go.Proofs.YtleeglgjaifejaaGreatDoor.cur Go.Proofs.YtleeglgjaifejaaGreatDoor.drawn Go.Proofs.YtleeglgjaifejaaGreatDoor.law
open Go.Proofs.YtleeglgjaifejaaGreatDoor.marks (FM impl_fm spec_mark)
open Go.Proofs.YtleeglgjaifejaaGreatDoor.read (Env)
set_option linter.unusedVariables false
set_option linter.unusedSimpArgs false
theorem code_more {w : World} {B B' : Nat} {a : Option Addr} {len : Nat} (h : CodeAt w B a len) (hB : B ≤ B') : CodeAt w B' a len := by
  intro j hj
  obtain ⟨cb, off, z, h1, h2, h3, h4, h5⟩ := h j hj
  exact ⟨cb, off, z, h1, by omega, h3, h4, h5⟩
set_option maxRecDepth 100000 in
set_option maxHeartbeats 3200000 in
theorem core (a : Option Addr) (len cap : Nat) (w : World) (hlen : len ≤ 1048576) (hcode : CodeAt w w.heap.size a len) (hE : Env w) :
    Calls Tryz.prog 3 #[.slice a len cap] w fun e w' => e = .returned (.bool true) ∧ Below w.heap.size w w' := by
  have HCODE := Lib.hid hcode
  have HE := Lib.hid hE
  have HBIG := Lib.hid (big_no a len cap w (by omega))
  have HDRAW := Lib.hid (draw_at a len cap w hlen hcode)
  clear hcode hE
  have hg := guard_ver
  go_enter Tryz.func3, Tryz.ntmps3
  go_wp2_with fail
  refine HBIG.out.mono ?_
  rintro e W0 ⟨rfl, rfl⟩
  go_wp2_with fail
  refine HDRAW.out.mono ?_
  rintro e W1 ⟨A, n, c, l, st, rfl, hn, hv, hb⟩
  have HLN : Hid (l.length = n) := Lib.hid hv.1
  have HL5 : Hid (l.length ≤ 5) := Lib.hid (by have := hv.1; omega)
  have HSZ := Lib.hid (chT_size HL5.out)
  have VL1 := Lib.hid hv
  have HB1 := Lib.hid hb
  have hn5 : n ≤ 1048576 := by omega
  have hn9 : n ≤ 140737488355328 := by omega
  clear hv hb HBIG HDRAW
  obtain ⟨x, hx⟩ : ∃ x, lastV l = x := ⟨_, rfl⟩
  have HLV := Lib.hid hx
  clear hx
  have hnq := neq_no (x := x) rfl
  go_wp2_with fail
  refine (impl_at st hn9 VL1.out (Nat.le_refl _)).mono ?_
  rintro e W2 ⟨rfl, hb⟩
  have HB2 : Hid (Below w.heap.size w W2) := Lib.hid (HB1.out.trans (hb.mono HB1.out.size))
  have VL2 : Hid (Vs W2 W2.heap.size A n l) := Lib.hid ((VL1.out.below hb).more hb.size)
  clear hb
  go_wp2_with fail
  refine (spec_at st hn9 VL2.out (Nat.le_refl _)).mono ?_
  rintro e W3 ⟨rfl, hb⟩
  have HB3 : Hid (Below w.heap.size w W3) := Lib.hid (HB2.out.trans (hb.mono HB2.out.size))
  have VL3 : Hid (Vs W3 W3.heap.size A n l) := Lib.hid ((VL2.out.below hb).more hb.size)
  clear hb
  rcases hc : chB l with _ | _
  · have HC := Lib.hid hc
    have hk : vAt l st = -1 := (vAt_no hc).symm
    rw [hk]
    clear hc hk
    go_wp2_with fail
    refine (impl_chain hn9 VL3.out (Nat.le_refl _)).mono ?_
    rintro e W4 ⟨rfl, hb⟩
    have HB4 : Hid (Below w.heap.size w W4) := Lib.hid (HB3.out.trans (hb.mono HB3.out.size))
    have VL4 : Hid (Vs W4 W4.heap.size A n l) := Lib.hid ((VL3.out.below hb).more hb.size)
    clear hb
    rw [HC.out]
    go_wp2_with fail
    refine (spec_chain hn9 VL4.out (Nat.le_refl _)).mono ?_
    rintro e W5 ⟨rfl, hb⟩
    have HB5 : Hid (Below w.heap.size w W5) := Lib.hid (HB4.out.trans (hb.mono HB4.out.size))
    have VL5 : Hid (Vs W5 W5.heap.size A n l) := Lib.hid ((VL4.out.below hb).more hb.size)
    clear hb
    rw [HC.out]
    go_wp2_with fail
    refine (latest_impl HLV.out hn9 VL5.out (Nat.le_refl _)).mono ?_
    rintro e W6 ⟨rfl, hb⟩
    have HB6 : Hid (Below w.heap.size w W6) := Lib.hid (HB5.out.trans (hb.mono HB5.out.size))
    have VL6 : Hid (Vs W6 W6.heap.size A n l) := Lib.hid ((VL5.out.below hb).more hb.size)
    clear hb
    go_wp2_with fail
    refine (latest_spec HLV.out hn9 VL6.out (Nat.le_refl _)).mono ?_
    rintro e W7 ⟨rfl, hb⟩
    have HB7 : Hid (Below w.heap.size w W7) := Lib.hid (HB6.out.trans (hb.mono HB6.out.size))
    have VL7 : Hid (Vs W7 W7.heap.size A n l) := Lib.hid ((VL6.out.below hb).more hb.size)
    clear hb
    go_wp2_with fail
    refine (impl_chain_text hn5 VL7.out (Nat.le_refl _) (HE.out.below HB7.out).1.1).mono ?_
    rintro e W8 ⟨rfl, hb⟩
    have HB8 : Hid (Below w.heap.size w W8) := Lib.hid (HB7.out.trans (hb.mono HB7.out.size))
    have VL8 : Hid (Vs W8 W8.heap.size A n l) := Lib.hid ((VL7.out.below hb).more hb.size)
    clear hb
    go_wp2_with fail
    refine (impl_parse (chT l) HSZ.out W8 (HE.out.below HB8.out)).mono ?_
    rintro e W9 (⟨l', v, hg', _⟩ | ⟨hno, rfl, hb⟩)
    case inl => exact absurd hg' (good_nay HC.out l')
    have HB9 : Hid (Below w.heap.size w W9) := Lib.hid (HB8.out.trans (hb.mono HB8.out.size))
    have VL9 : Hid (Vs W9 W9.heap.size A n l) := Lib.hid ((VL8.out.below hb).more hb.size)
    clear hb
    clear hno
    go_wp2_with fail
    refine (draw_mark a len cap W9 hlen (code_more (HCODE.out.below (Nat.le_refl _) HB9.out) HB9.out.size)).mono ?_
    rintro e W10 ⟨n0, rfl, hn0, hn1, hb⟩
    have HB10 : Hid (Below w.heap.size w W10) := Lib.hid (HB9.out.trans (hb.mono HB9.out.size))
    have VL10 : Hid (Vs W10 W10.heap.size A n l) := Lib.hid ((VL9.out.below hb).more hb.size)
    clear hb
    go_wp2_with fail
    refine (impl_fm n0 W10 hn0 hn1 (HE.out.below HB10.out).1.1).mono ?_
    rintro e W11 ⟨rfl, hb⟩
    have HB11 : Hid (Below w.heap.size w W11) := Lib.hid (HB10.out.trans (hb.mono HB10.out.size))
    have VL11 : Hid (Vs W11 W11.heap.size A n l) := Lib.hid ((VL10.out.below hb).more hb.size)
    clear hb
    go_wp2_with fail
    refine (mark_back n0 hn0 hn1 W11 (HE.out.below HB11.out).1).mono ?_
    rintro e W12 ⟨⟨x0, rfl, hx0⟩, hb⟩
    have HB12 : Hid (Below w.heap.size w W12) := Lib.hid (HB11.out.trans (hb.mono HB11.out.size))
    have VL12 : Hid (Vs W12 W12.heap.size A n l) := Lib.hid ((VL11.out.below hb).more hb.size)
    clear hb
    have HX0 := Lib.hid hx0
    clear hx0
    obtain ⟨bm, hbm⟩ : ∃ bm, bm = In 0 1000 n0 := ⟨_, rfl⟩
    have HSM : Hid (∀ W, Calls Tryz.prog 20 #[.int .i64 n0] W fun e w' => e = .returned (.bool bm) ∧ W = w') := Lib.hid (fun W => by have h := spec_mark n0 W; rw [show Go.Proofs.YtleeglgjaifejaaGreatDoor.marks.In 0 1000 n0 = bm from hbm.symm] at h; exact h)
    rw [← hbm]
    have HBM := Lib.hid hbm
    clear hbm
    cases bm with
      | false =>
        go_wp2_with fail
        refine (spec_chain hn9 VL12.out (Nat.le_refl _)).mono ?_
        rintro e W13 ⟨rfl, hb⟩
        have HB13 : Hid (Below w.heap.size w W13) := Lib.hid (HB12.out.trans (hb.mono HB12.out.size))
        have VL13 : Hid (Vs W13 W13.heap.size A n l) := Lib.hid ((VL12.out.below hb).more hb.size)
        clear hb
        rw [HC.out]
        go_wp2_with fail
        refine (HSM.out W13).mono ?_
        rintro e W14 ⟨rfl, rfl⟩
        go_wp2_with fail
        go_ret
        exact ⟨rfl, HB13.out⟩
      | true =>
        have ex : x0 = n0 := HX0.out HBM.out.symm
        have tx : (x0 == n0) = true := by simpa using ex
        clear ex
        go_wp2_with fail
        refine (spec_chain hn9 VL12.out (Nat.le_refl _)).mono ?_
        rintro e W13 ⟨rfl, hb⟩
        have HB13 : Hid (Below w.heap.size w W13) := Lib.hid (HB12.out.trans (hb.mono HB12.out.size))
        have VL13 : Hid (Vs W13 W13.heap.size A n l) := Lib.hid ((VL12.out.below hb).more hb.size)
        clear hb
        rw [HC.out]
        go_wp2_with fail
        refine (HSM.out W13).mono ?_
        rintro e W14 ⟨rfl, rfl⟩
        go_wp2_with fail
        go_ret
        exact ⟨rfl, HB13.out⟩
  · have HC := Lib.hid hc
    clear hc
    obtain ⟨K, hK⟩ : ∃ K, K = vAt l st := ⟨_, rfl⟩
    rw [← hK]
    have HK := Lib.hid hK
    by_cases h0 : 0 ≤ K
    case neg =>
      have t0 : decide (0 ≤ K) = false := decide_eq_false h0
      clear hK h0
      go_wp2_with fail
      refine (impl_chain hn9 VL3.out (Nat.le_refl _)).mono ?_
      rintro e W4 ⟨rfl, hb⟩
      have HB4 : Hid (Below w.heap.size w W4) := Lib.hid (HB3.out.trans (hb.mono HB3.out.size))
      have VL4 : Hid (Vs W4 W4.heap.size A n l) := Lib.hid ((VL3.out.below hb).more hb.size)
      clear hb
      rw [HC.out]
      go_wp2_with fail
      refine (spec_chain hn9 VL4.out (Nat.le_refl _)).mono ?_
      rintro e W5 ⟨rfl, hb⟩
      have HB5 : Hid (Below w.heap.size w W5) := Lib.hid (HB4.out.trans (hb.mono HB4.out.size))
      have VL5 : Hid (Vs W5 W5.heap.size A n l) := Lib.hid ((VL4.out.below hb).more hb.size)
      clear hb
      rw [HC.out]
      go_wp2_with fail
      refine (latest_impl HLV.out hn9 VL5.out (Nat.le_refl _)).mono ?_
      rintro e W6 ⟨rfl, hb⟩
      have HB6 : Hid (Below w.heap.size w W6) := Lib.hid (HB5.out.trans (hb.mono HB5.out.size))
      have VL6 : Hid (Vs W6 W6.heap.size A n l) := Lib.hid ((VL5.out.below hb).more hb.size)
      clear hb
      go_wp2_with fail
      refine (latest_spec HLV.out hn9 VL6.out (Nat.le_refl _)).mono ?_
      rintro e W7 ⟨rfl, hb⟩
      have HB7 : Hid (Below w.heap.size w W7) := Lib.hid (HB6.out.trans (hb.mono HB6.out.size))
      have VL7 : Hid (Vs W7 W7.heap.size A n l) := Lib.hid ((VL6.out.below hb).more hb.size)
      clear hb
      go_wp2_with fail
      refine (impl_chain_text hn5 VL7.out (Nat.le_refl _) (HE.out.below HB7.out).1.1).mono ?_
      rintro e W8 ⟨rfl, hb⟩
      have HB8 : Hid (Below w.heap.size w W8) := Lib.hid (HB7.out.trans (hb.mono HB7.out.size))
      have VL8 : Hid (Vs W8 W8.heap.size A n l) := Lib.hid ((VL7.out.below hb).more hb.size)
      clear hb
      go_wp2_with fail
      refine (impl_parse (chT l) HSZ.out W8 (HE.out.below HB8.out)).mono ?_
      rintro e W9 (⟨l', v, hg', rfl, hown, hb⟩ | ⟨hno, _⟩)
      case inr => exact absurd (good_own HL5.out HC.out) (hno l)
      obtain rfl : l = l' := (good_one (good_own HL5.out HC.out) hg').symm
      rw [HLN.out] at hown
      obtain ⟨AX, cx, rfl, hvx⟩ := own_vs hown HLN.out
      have VX0 := Lib.hid hvx
      have HB9 : Hid (Below w.heap.size w W9) := Lib.hid (HB8.out.trans (hb.mono HB8.out.size))
      have VL9 : Hid (Vs W9 W9.heap.size A n l) := Lib.hid ((VL8.out.below hb).more hb.size)
      clear hb
      clear hg' hown hvx
      go_wp2_with fail
      refine (draw_mark a len cap W9 hlen (code_more (HCODE.out.below (Nat.le_refl _) HB9.out) HB9.out.size)).mono ?_
      rintro e W10 ⟨n0, rfl, hn0, hn1, hb⟩
      have VX10 : Hid (Vs W10 W10.heap.size AX n l) := Lib.hid ((VX0.out.below hb).more hb.size)
      have HB10 : Hid (Below w.heap.size w W10) := Lib.hid (HB9.out.trans (hb.mono HB9.out.size))
      have VL10 : Hid (Vs W10 W10.heap.size A n l) := Lib.hid ((VL9.out.below hb).more hb.size)
      clear hb
      go_wp2_with fail
      refine (impl_fm n0 W10 hn0 hn1 (HE.out.below HB10.out).1.1).mono ?_
      rintro e W11 ⟨rfl, hb⟩
      have VX11 : Hid (Vs W11 W11.heap.size AX n l) := Lib.hid ((VX10.out.below hb).more hb.size)
      have HB11 : Hid (Below w.heap.size w W11) := Lib.hid (HB10.out.trans (hb.mono HB10.out.size))
      have VL11 : Hid (Vs W11 W11.heap.size A n l) := Lib.hid ((VL10.out.below hb).more hb.size)
      clear hb
      go_wp2_with fail
      refine (mark_back n0 hn0 hn1 W11 (HE.out.below HB11.out).1).mono ?_
      rintro e W12 ⟨⟨x0, rfl, hx0⟩, hb⟩
      have VX12 : Hid (Vs W12 W12.heap.size AX n l) := Lib.hid ((VX11.out.below hb).more hb.size)
      have HB12 : Hid (Below w.heap.size w W12) := Lib.hid (HB11.out.trans (hb.mono HB11.out.size))
      have VL12 : Hid (Vs W12 W12.heap.size A n l) := Lib.hid ((VL11.out.below hb).more hb.size)
      clear hb
      have HX0 := Lib.hid hx0
      clear hx0
      obtain ⟨bm, hbm⟩ : ∃ bm, bm = In 0 1000 n0 := ⟨_, rfl⟩
      have HSM : Hid (∀ W, Calls Tryz.prog 20 #[.int .i64 n0] W fun e w' => e = .returned (.bool bm) ∧ W = w') := Lib.hid (fun W => by have h := spec_mark n0 W; rw [show Go.Proofs.YtleeglgjaifejaaGreatDoor.marks.In 0 1000 n0 = bm from hbm.symm] at h; exact h)
      rw [← hbm]
      have HBM := Lib.hid hbm
      clear hbm
      cases bm with
        | false =>
          go_wp2_with fail
          refine (spec_chain hn9 VL12.out (Nat.le_refl _)).mono ?_
          rintro e W13 ⟨rfl, hb⟩
          have VX13 : Hid (Vs W13 W13.heap.size AX n l) := Lib.hid ((VX12.out.below hb).more hb.size)
          have HB13 : Hid (Below w.heap.size w W13) := Lib.hid (HB12.out.trans (hb.mono HB12.out.size))
          have VL13 : Hid (Vs W13 W13.heap.size A n l) := Lib.hid ((VL12.out.below hb).more hb.size)
          clear hb
          rw [HC.out]
          go_wp2_with fail
          refine (impl_equal hn9 hn9 VX13.out VL13.out (Nat.le_refl _)).mono ?_
          rintro e W14 ⟨rfl, hb⟩
          have VX14 : Hid (Vs W14 W14.heap.size AX n l) := Lib.hid ((VX13.out.below hb).more hb.size)
          have HB14 : Hid (Below w.heap.size w W14) := Lib.hid (HB13.out.trans (hb.mono HB13.out.size))
          have VL14 : Hid (Vs W14 W14.heap.size A n l) := Lib.hid ((VL13.out.below hb).more hb.size)
          clear hb
          rw [show lB l l = true from decide_eq_true rfl]
          go_wp2_with fail
          refine (HSM.out W14).mono ?_
          rintro e W15 ⟨rfl, rfl⟩
          go_wp2_with fail
          go_ret
          exact ⟨rfl, HB14.out⟩
        | true =>
          have ex : x0 = n0 := HX0.out HBM.out.symm
          have tx : (x0 == n0) = true := by simpa using ex
          clear ex
          go_wp2_with fail
          refine (spec_chain hn9 VL12.out (Nat.le_refl _)).mono ?_
          rintro e W13 ⟨rfl, hb⟩
          have VX13 : Hid (Vs W13 W13.heap.size AX n l) := Lib.hid ((VX12.out.below hb).more hb.size)
          have HB13 : Hid (Below w.heap.size w W13) := Lib.hid (HB12.out.trans (hb.mono HB12.out.size))
          have VL13 : Hid (Vs W13 W13.heap.size A n l) := Lib.hid ((VL12.out.below hb).more hb.size)
          clear hb
          rw [HC.out]
          go_wp2_with fail
          refine (impl_equal hn9 hn9 VX13.out VL13.out (Nat.le_refl _)).mono ?_
          rintro e W14 ⟨rfl, hb⟩
          have VX14 : Hid (Vs W14 W14.heap.size AX n l) := Lib.hid ((VX13.out.below hb).more hb.size)
          have HB14 : Hid (Below w.heap.size w W14) := Lib.hid (HB13.out.trans (hb.mono HB13.out.size))
          have VL14 : Hid (Vs W14 W14.heap.size A n l) := Lib.hid ((VL13.out.below hb).more hb.size)
          clear hb
          rw [show lB l l = true from decide_eq_true rfl]
          go_wp2_with fail
          refine (HSM.out W14).mono ?_
          rintro e W15 ⟨rfl, rfl⟩
          go_wp2_with fail
          go_ret
          exact ⟨rfl, HB14.out⟩
    obtain ⟨k, y, hk, hkl, hy, hys, hyn, hyf⟩ := at_found (l := l) (s := st) (by rw [← hK]; exact h0)
    obtain rfl : K = (k : Int) := by rw [hK, hk]
    have HY := Lib.hid hy
    have HYN := Lib.hid hyn
    have HYF := Lib.hid hyf
    have hkn : k < n := by have := HLN.out; omega
    have t0 : decide ((0 : Int) ≤ (k : Int)) = true := decide_eq_true h0
    have t1 : decide (st < y.c) = false := decide_eq_false (by omega)
    clear hK hk hkl hy hyn hyf h0
    go_wp2_with fail
    refine (impl_chain hn9 VL3.out (Nat.le_refl _)).mono ?_
    rintro e W4 ⟨rfl, hb⟩
    have HB4 : Hid (Below w.heap.size w W4) := Lib.hid (HB3.out.trans (hb.mono HB3.out.size))
    have VL4 : Hid (Vs W4 W4.heap.size A n l) := Lib.hid ((VL3.out.below hb).more hb.size)
    clear hb
    rw [HC.out]
    go_wp2_with fail
    refine (spec_chain hn9 VL4.out (Nat.le_refl _)).mono ?_
    rintro e W5 ⟨rfl, hb⟩
    have HB5 : Hid (Below w.heap.size w W5) := Lib.hid (HB4.out.trans (hb.mono HB4.out.size))
    have VL5 : Hid (Vs W5 W5.heap.size A n l) := Lib.hid ((VL4.out.below hb).more hb.size)
    clear hb
    rw [HC.out]
    go_wp2_with fail
    refine (latest_impl HLV.out hn9 VL5.out (Nat.le_refl _)).mono ?_
    rintro e W6 ⟨rfl, hb⟩
    have HB6 : Hid (Below w.heap.size w W6) := Lib.hid (HB5.out.trans (hb.mono HB5.out.size))
    have VL6 : Hid (Vs W6 W6.heap.size A n l) := Lib.hid ((VL5.out.below hb).more hb.size)
    clear hb
    go_wp2_with fail
    refine (latest_spec HLV.out hn9 VL6.out (Nat.le_refl _)).mono ?_
    rintro e W7 ⟨rfl, hb⟩
    have HB7 : Hid (Below w.heap.size w W7) := Lib.hid (HB6.out.trans (hb.mono HB6.out.size))
    have VL7 : Hid (Vs W7 W7.heap.size A n l) := Lib.hid ((VL6.out.below hb).more hb.size)
    clear hb
    obtain ⟨b, o, y2, rfl, hbB, hy2, a0, a1, a2, a3, a4⟩ := VL7.out.at_ hkn
    obtain rfl : y2 = y := by have := HY.out; rw [this] at hy2; exact (Option.some.inj hy2).symm
    clear hy2 a0 a1 a3 a4
    have i1 : (0 : Int) ≤ (k : Int) := by omega
    have i2 : (k : Int) < (n : Int) := by omega
    have s1 : IntKind.i64.wrap ((k : Int) + 1) = (k : Int) + 1 := IntWalk.i64_in _ (by omega)
    have s2 : (0 : Int) ≤ (k : Int) + 1 := by omega
    have s3 : ((k : Int) + 1).toNat = k + 1 := by omega
    by_cases hl2 : k + 1 < n
    case neg =>
      have t2 : decide ((k : Int) + 1 < (n : Int)) = false := decide_eq_false (by omega)
      go_wp2_with fail
      refine (impl_find y2.c hn9 VL7.out (Nat.le_refl _)).mono ?_
      rintro e W8 ⟨rfl, hb⟩
      have HB8 : Hid (Below w.heap.size w W8) := Lib.hid (HB7.out.trans (hb.mono HB7.out.size))
      have VL8 : Hid (Vs W8 W8.heap.size (some ⟨b, o, none⟩) n l) := Lib.hid ((VL7.out.below hb).more hb.size)
      clear hb
      rw [HYF.out]
      go_wp2_with fail
      refine (impl_chain_text hn5 VL8.out (Nat.le_refl _) (HE.out.below HB8.out).1.1).mono ?_
      rintro e W9 ⟨rfl, hb⟩
      have HB9 : Hid (Below w.heap.size w W9) := Lib.hid (HB8.out.trans (hb.mono HB8.out.size))
      have VL9 : Hid (Vs W9 W9.heap.size (some ⟨b, o, none⟩) n l) := Lib.hid ((VL8.out.below hb).more hb.size)
      clear hb
      go_wp2_with fail
      refine (impl_parse (chT l) HSZ.out W9 (HE.out.below HB9.out)).mono ?_
      rintro e W10 (⟨l', v, hg', rfl, hown, hb⟩ | ⟨hno, _⟩)
      case inr => exact absurd (good_own HL5.out HC.out) (hno l)
      obtain rfl : l = l' := (good_one (good_own HL5.out HC.out) hg').symm
      rw [HLN.out] at hown
      obtain ⟨AX, cx, rfl, hvx⟩ := own_vs hown HLN.out
      have VX0 := Lib.hid hvx
      have HB10 : Hid (Below w.heap.size w W10) := Lib.hid (HB9.out.trans (hb.mono HB9.out.size))
      have VL10 : Hid (Vs W10 W10.heap.size (some ⟨b, o, none⟩) n l) := Lib.hid ((VL9.out.below hb).more hb.size)
      clear hb
      clear hg' hown hvx
      go_wp2_with fail
      refine (draw_mark a len cap W10 hlen (code_more (HCODE.out.below (Nat.le_refl _) HB10.out) HB10.out.size)).mono ?_
      rintro e W11 ⟨n0, rfl, hn0, hn1, hb⟩
      have VX11 : Hid (Vs W11 W11.heap.size AX n l) := Lib.hid ((VX0.out.below hb).more hb.size)
      have HB11 : Hid (Below w.heap.size w W11) := Lib.hid (HB10.out.trans (hb.mono HB10.out.size))
      have VL11 : Hid (Vs W11 W11.heap.size (some ⟨b, o, none⟩) n l) := Lib.hid ((VL10.out.below hb).more hb.size)
      clear hb
      go_wp2_with fail
      refine (impl_fm n0 W11 hn0 hn1 (HE.out.below HB11.out).1.1).mono ?_
      rintro e W12 ⟨rfl, hb⟩
      have VX12 : Hid (Vs W12 W12.heap.size AX n l) := Lib.hid ((VX11.out.below hb).more hb.size)
      have HB12 : Hid (Below w.heap.size w W12) := Lib.hid (HB11.out.trans (hb.mono HB11.out.size))
      have VL12 : Hid (Vs W12 W12.heap.size (some ⟨b, o, none⟩) n l) := Lib.hid ((VL11.out.below hb).more hb.size)
      clear hb
      go_wp2_with fail
      refine (mark_back n0 hn0 hn1 W12 (HE.out.below HB12.out).1).mono ?_
      rintro e W13 ⟨⟨x0, rfl, hx0⟩, hb⟩
      have VX13 : Hid (Vs W13 W13.heap.size AX n l) := Lib.hid ((VX12.out.below hb).more hb.size)
      have HB13 : Hid (Below w.heap.size w W13) := Lib.hid (HB12.out.trans (hb.mono HB12.out.size))
      have VL13 : Hid (Vs W13 W13.heap.size (some ⟨b, o, none⟩) n l) := Lib.hid ((VL12.out.below hb).more hb.size)
      clear hb
      have HX0 := Lib.hid hx0
      clear hx0
      obtain ⟨bm, hbm⟩ : ∃ bm, bm = In 0 1000 n0 := ⟨_, rfl⟩
      have HSM : Hid (∀ W, Calls Tryz.prog 20 #[.int .i64 n0] W fun e w' => e = .returned (.bool bm) ∧ W = w') := Lib.hid (fun W => by have h := spec_mark n0 W; rw [show Go.Proofs.YtleeglgjaifejaaGreatDoor.marks.In 0 1000 n0 = bm from hbm.symm] at h; exact h)
      rw [← hbm]
      have HBM := Lib.hid hbm
      clear hbm
      cases bm with
        | false =>
          go_wp2_with fail
          refine (spec_chain hn9 VL13.out (Nat.le_refl _)).mono ?_
          rintro e W14 ⟨rfl, hb⟩
          have VX14 : Hid (Vs W14 W14.heap.size AX n l) := Lib.hid ((VX13.out.below hb).more hb.size)
          have HB14 : Hid (Below w.heap.size w W14) := Lib.hid (HB13.out.trans (hb.mono HB13.out.size))
          have VL14 : Hid (Vs W14 W14.heap.size (some ⟨b, o, none⟩) n l) := Lib.hid ((VL13.out.below hb).more hb.size)
          clear hb
          rw [HC.out]
          go_wp2_with fail
          refine (impl_equal hn9 hn9 VX14.out VL14.out (Nat.le_refl _)).mono ?_
          rintro e W15 ⟨rfl, hb⟩
          have VX15 : Hid (Vs W15 W15.heap.size AX n l) := Lib.hid ((VX14.out.below hb).more hb.size)
          have HB15 : Hid (Below w.heap.size w W15) := Lib.hid (HB14.out.trans (hb.mono HB14.out.size))
          have VL15 : Hid (Vs W15 W15.heap.size (some ⟨b, o, none⟩) n l) := Lib.hid ((VL14.out.below hb).more hb.size)
          clear hb
          rw [show lB l l = true from decide_eq_true rfl]
          go_wp2_with fail
          refine (HSM.out W15).mono ?_
          rintro e W16 ⟨rfl, rfl⟩
          go_wp2_with fail
          go_ret
          exact ⟨rfl, HB15.out⟩
        | true =>
          have ex : x0 = n0 := HX0.out HBM.out.symm
          have tx : (x0 == n0) = true := by simpa using ex
          clear ex
          go_wp2_with fail
          refine (spec_chain hn9 VL13.out (Nat.le_refl _)).mono ?_
          rintro e W14 ⟨rfl, hb⟩
          have VX14 : Hid (Vs W14 W14.heap.size AX n l) := Lib.hid ((VX13.out.below hb).more hb.size)
          have HB14 : Hid (Below w.heap.size w W14) := Lib.hid (HB13.out.trans (hb.mono HB13.out.size))
          have VL14 : Hid (Vs W14 W14.heap.size (some ⟨b, o, none⟩) n l) := Lib.hid ((VL13.out.below hb).more hb.size)
          clear hb
          rw [HC.out]
          go_wp2_with fail
          refine (impl_equal hn9 hn9 VX14.out VL14.out (Nat.le_refl _)).mono ?_
          rintro e W15 ⟨rfl, hb⟩
          have VX15 : Hid (Vs W15 W15.heap.size AX n l) := Lib.hid ((VX14.out.below hb).more hb.size)
          have HB15 : Hid (Below w.heap.size w W15) := Lib.hid (HB14.out.trans (hb.mono HB14.out.size))
          have VL15 : Hid (Vs W15 W15.heap.size (some ⟨b, o, none⟩) n l) := Lib.hid ((VL14.out.below hb).more hb.size)
          clear hb
          rw [show lB l l = true from decide_eq_true rfl]
          go_wp2_with fail
          refine (HSM.out W15).mono ?_
          rintro e W16 ⟨rfl, rfl⟩
          go_wp2_with fail
          go_ret
          exact ⟨rfl, HB15.out⟩
    obtain ⟨b', o', y3, hbo, hbB', hy3, d0, d1, d2, d3, d4⟩ := VL7.out.at_ hl2
    injection hbo with hbo
    injection hbo with e1 e2
    subst e1
    subst e2
    have t2 : decide ((k : Int) + 1 < (n : Int)) = true := decide_eq_true (by omega)
    have t3 : decide (y3.c ≤ st) = false := decide_eq_false (by have := HYN.out y3 hy3; omega)
    have i3 : (k : Int) + 1 < (n : Int) := by omega
    clear hy3 d0 d1 d3 d4
    go_wp2_with fail
    refine (impl_find y2.c hn9 VL7.out (Nat.le_refl _)).mono ?_
    rintro e W8 ⟨rfl, hb⟩
    have HB8 : Hid (Below w.heap.size w W8) := Lib.hid (HB7.out.trans (hb.mono HB7.out.size))
    have VL8 : Hid (Vs W8 W8.heap.size (some ⟨b, o, none⟩) n l) := Lib.hid ((VL7.out.below hb).more hb.size)
    clear hb
    rw [HYF.out]
    go_wp2_with fail
    refine (impl_chain_text hn5 VL8.out (Nat.le_refl _) (HE.out.below HB8.out).1.1).mono ?_
    rintro e W9 ⟨rfl, hb⟩
    have HB9 : Hid (Below w.heap.size w W9) := Lib.hid (HB8.out.trans (hb.mono HB8.out.size))
    have VL9 : Hid (Vs W9 W9.heap.size (some ⟨b, o, none⟩) n l) := Lib.hid ((VL8.out.below hb).more hb.size)
    clear hb
    go_wp2_with fail
    refine (impl_parse (chT l) HSZ.out W9 (HE.out.below HB9.out)).mono ?_
    rintro e W10 (⟨l', v, hg', rfl, hown, hb⟩ | ⟨hno, _⟩)
    case inr => exact absurd (good_own HL5.out HC.out) (hno l)
    obtain rfl : l = l' := (good_one (good_own HL5.out HC.out) hg').symm
    rw [HLN.out] at hown
    obtain ⟨AX, cx, rfl, hvx⟩ := own_vs hown HLN.out
    have VX0 := Lib.hid hvx
    have HB10 : Hid (Below w.heap.size w W10) := Lib.hid (HB9.out.trans (hb.mono HB9.out.size))
    have VL10 : Hid (Vs W10 W10.heap.size (some ⟨b, o, none⟩) n l) := Lib.hid ((VL9.out.below hb).more hb.size)
    clear hb
    clear hg' hown hvx
    go_wp2_with fail
    refine (draw_mark a len cap W10 hlen (code_more (HCODE.out.below (Nat.le_refl _) HB10.out) HB10.out.size)).mono ?_
    rintro e W11 ⟨n0, rfl, hn0, hn1, hb⟩
    have VX11 : Hid (Vs W11 W11.heap.size AX n l) := Lib.hid ((VX0.out.below hb).more hb.size)
    have HB11 : Hid (Below w.heap.size w W11) := Lib.hid (HB10.out.trans (hb.mono HB10.out.size))
    have VL11 : Hid (Vs W11 W11.heap.size (some ⟨b, o, none⟩) n l) := Lib.hid ((VL10.out.below hb).more hb.size)
    clear hb
    go_wp2_with fail
    refine (impl_fm n0 W11 hn0 hn1 (HE.out.below HB11.out).1.1).mono ?_
    rintro e W12 ⟨rfl, hb⟩
    have VX12 : Hid (Vs W12 W12.heap.size AX n l) := Lib.hid ((VX11.out.below hb).more hb.size)
    have HB12 : Hid (Below w.heap.size w W12) := Lib.hid (HB11.out.trans (hb.mono HB11.out.size))
    have VL12 : Hid (Vs W12 W12.heap.size (some ⟨b, o, none⟩) n l) := Lib.hid ((VL11.out.below hb).more hb.size)
    clear hb
    go_wp2_with fail
    refine (mark_back n0 hn0 hn1 W12 (HE.out.below HB12.out).1).mono ?_
    rintro e W13 ⟨⟨x0, rfl, hx0⟩, hb⟩
    have VX13 : Hid (Vs W13 W13.heap.size AX n l) := Lib.hid ((VX12.out.below hb).more hb.size)
    have HB13 : Hid (Below w.heap.size w W13) := Lib.hid (HB12.out.trans (hb.mono HB12.out.size))
    have VL13 : Hid (Vs W13 W13.heap.size (some ⟨b, o, none⟩) n l) := Lib.hid ((VL12.out.below hb).more hb.size)
    clear hb
    have HX0 := Lib.hid hx0
    clear hx0
    obtain ⟨bm, hbm⟩ : ∃ bm, bm = In 0 1000 n0 := ⟨_, rfl⟩
    have HSM : Hid (∀ W, Calls Tryz.prog 20 #[.int .i64 n0] W fun e w' => e = .returned (.bool bm) ∧ W = w') := Lib.hid (fun W => by have h := spec_mark n0 W; rw [show Go.Proofs.YtleeglgjaifejaaGreatDoor.marks.In 0 1000 n0 = bm from hbm.symm] at h; exact h)
    rw [← hbm]
    have HBM := Lib.hid hbm
    clear hbm
    cases bm with
      | false =>
        go_wp2_with fail
        refine (spec_chain hn9 VL13.out (Nat.le_refl _)).mono ?_
        rintro e W14 ⟨rfl, hb⟩
        have VX14 : Hid (Vs W14 W14.heap.size AX n l) := Lib.hid ((VX13.out.below hb).more hb.size)
        have HB14 : Hid (Below w.heap.size w W14) := Lib.hid (HB13.out.trans (hb.mono HB13.out.size))
        have VL14 : Hid (Vs W14 W14.heap.size (some ⟨b, o, none⟩) n l) := Lib.hid ((VL13.out.below hb).more hb.size)
        clear hb
        rw [HC.out]
        go_wp2_with fail
        refine (impl_equal hn9 hn9 VX14.out VL14.out (Nat.le_refl _)).mono ?_
        rintro e W15 ⟨rfl, hb⟩
        have VX15 : Hid (Vs W15 W15.heap.size AX n l) := Lib.hid ((VX14.out.below hb).more hb.size)
        have HB15 : Hid (Below w.heap.size w W15) := Lib.hid (HB14.out.trans (hb.mono HB14.out.size))
        have VL15 : Hid (Vs W15 W15.heap.size (some ⟨b, o, none⟩) n l) := Lib.hid ((VL14.out.below hb).more hb.size)
        clear hb
        rw [show lB l l = true from decide_eq_true rfl]
        go_wp2_with fail
        refine (HSM.out W15).mono ?_
        rintro e W16 ⟨rfl, rfl⟩
        go_wp2_with fail
        go_ret
        exact ⟨rfl, HB15.out⟩
      | true =>
        have ex : x0 = n0 := HX0.out HBM.out.symm
        have tx : (x0 == n0) = true := by simpa using ex
        clear ex
        go_wp2_with fail
        refine (spec_chain hn9 VL13.out (Nat.le_refl _)).mono ?_
        rintro e W14 ⟨rfl, hb⟩
        have VX14 : Hid (Vs W14 W14.heap.size AX n l) := Lib.hid ((VX13.out.below hb).more hb.size)
        have HB14 : Hid (Below w.heap.size w W14) := Lib.hid (HB13.out.trans (hb.mono HB13.out.size))
        have VL14 : Hid (Vs W14 W14.heap.size (some ⟨b, o, none⟩) n l) := Lib.hid ((VL13.out.below hb).more hb.size)
        clear hb
        rw [HC.out]
        go_wp2_with fail
        refine (impl_equal hn9 hn9 VX14.out VL14.out (Nat.le_refl _)).mono ?_
        rintro e W15 ⟨rfl, hb⟩
        have VX15 : Hid (Vs W15 W15.heap.size AX n l) := Lib.hid ((VX14.out.below hb).more hb.size)
        have HB15 : Hid (Below w.heap.size w W15) := Lib.hid (HB14.out.trans (hb.mono HB14.out.size))
        have VL15 : Hid (Vs W15 W15.heap.size (some ⟨b, o, none⟩) n l) := Lib.hid ((VL14.out.below hb).more hb.size)
        clear hb
        rw [show lB l l = true from decide_eq_true rfl]
        go_wp2_with fail
        refine (HSM.out W15).mono ?_
        rintro e W16 ⟨rfl, rfl⟩
        go_wp2_with fail
        go_ret
        exact ⟨rfl, HB15.out⟩
end Go.Proofs.YtleeglgjaifejaaGreatDoor.chcore
