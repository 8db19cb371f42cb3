/- EqualStores of the program answers as its model at every two stores: the law returns true and writes nothing that was there. No condition. -/
import Derived.Test.YtpejgjmkggmonaaOpenS
import Derived.Test.YtpejgjmkggmonaaEqs
import Derived.WalkKit
import Derived.ProofKit
import Derived.OpenShut
import Derived.ShutString
import Derived.ChangeOld
import Derived.Below
import Derived.Carry
import Derived.Lib.Hide
import Derived.StillTailTactics
import Derived.Deep.RegionHeld3
import Derived.Deep.DeepHandedRow
namespace Go.Proofs.Ytpejgjmkggmonaa.fnExactEqualStores
open Go.ChangeShapes Go.WideShapes Go.ChangeAt Go.RowKit
open Go.ChangeMaps (open_string shut_string)
open Go.Proofs.Ytpejgjmkggmonaa.vers Go.Proofs.Ytpejgjmkggmonaa.sl Go.Proofs.Ytpejgjmkggmonaa.opn Go.Proofs.Ytpejgjmkggmonaa.ch Go.Proofs.Ytpejgjmkggmonaa.st Go.Proofs.Ytpejgjmkggmonaa.opns Go.Proofs.Ytpejgjmkggmonaa.eqst
set_option linter.unusedVariables false
set_option maxHeartbeats 3200000 in
theorem walk (a0 : Option Addr) (len0 cap0 : Nat) (l0 : List (List Ver)) (a1 : Option Addr) (len1 cap1 : Nat) (l1 : List (List Ver)) (w : World) (h0 : R0 w w.heap.size a0 len0 l0) (m0 : len0 ≤ maxLen) (h1 : R0 w w.heap.size a1 len1 l1) (m1 : len1 ≤ maxLen) :
    Calls Try.prog 10 #[.agg #[.slice a0 len0 cap0], .agg #[.slice a1 len1 cap1]] w fun e w' => e = .returned (.bool true) ∧ Below w.heap.size w w' := by
  unfold maxLen at m0 m1
  have H0 := Lib.hid h0
  have hlen0 := h0.1
  have H1 := Lib.hid h1
  have hlen1 := h1.1
  clear h0 h1
  by_cases hbig : (1048576 : Int) < tot l0
  · have hz := szR_no hbig
    have HZ := Lib.hid hz
    clear hz
    go_enter Try.func10, Try.ntmps10
    go_wp2_with fail
    have bx_2 := up (.cells #[.slice a1 len1 cap1] 31) (one_cell w (.slice a0 len0 cap0) 31) (by simp)
    have by_2 : ((w.alloc (.cells #[.slice a0 len0 cap0] 31)).alloc (.cells #[.slice a1 len1 cap1] 31)).cell? ⟨w.heap.size + 1, 0, none⟩ = some (.slice a1 len1 cap1) := by simp
    have hb := new2 w (.cells #[.slice a0 len0 cap0] 31) (.cells #[.slice a1 len1 cap1] 31)
    have bxl_2 : w.heap.size < ((w.alloc (.cells #[.slice a0 len0 cap0] 31)).alloc (.cells #[.slice a1 len1 cap1] 31)).heap.size := by simp; omega
    have byl_2 : w.heap.size + 1 < ((w.alloc (.cells #[.slice a0 len0 cap0] 31)).alloc (.cells #[.slice a1 len1 cap1] 31)).heap.size := by simp
    generalize (w.alloc _).alloc _ = W2 at bx_2 by_2 hb bxl_2 byl_2 ⊢
    have HB2 : Hid (Below w.heap.size w W2) := Lib.hid hb
    clear hb
    refine (count_store (by omega) (H0.out.below HB2.out) HB2.out.size (by omega) (by omega)).mono ?_
    rintro e W3 ⟨rfl, hb⟩
    rw [HZ.out]
    have HB3 : Hid (Below w.heap.size w W3) := Lib.hid (HB2.out.trans (hb.mono HB2.out.size))
    have HS3 : Hid (Below W2.heap.size W2 W3) := Lib.hid hb
    clear hb
    have bx_3 := (HS3.out.cell (p := ⟨w.heap.size, 0, none⟩) bxl_2).trans bx_2
    clear bx_2
    have bxl_3 := Nat.lt_of_lt_of_le bxl_2 HS3.out.size
    clear bxl_2
    have by_3 := (HS3.out.cell (p := ⟨w.heap.size + 1, 0, none⟩) byl_2).trans by_2
    clear by_2
    have byl_3 := Nat.lt_of_lt_of_le byl_2 HS3.out.size
    clear byl_2
    go_wp2_with fail
    go_ret
    exact ⟨rfl, HB3.out⟩
  have hz := szR_yes (left := 1048576) (ll := l0) (by omega)
  have HZ := Lib.hid hz
  clear hz
  have htot0 := tot_eq l0
  have HR := Lib.hid (H0.out.tight (by omega))
  have tz : decide ((1048576 : Int) - (tot l0 : Int) < 0) = false := decide_eq_false (by omega)
  obtain ⟨lf, hlf⟩ : ∃ lf : Int, lf = 1048576 - (tot l0 : Int) := ⟨_, rfl⟩
  rw [← hlf] at HZ tz
  have lf0 : 0 ≤ lf := by omega
  have lf1 : lf ≤ 1048576 := by omega
  clear hlf
  by_cases hbig2 : lf < tot l1
  · have hz := szR_no hbig2
    have HZ1 := Lib.hid hz
    clear hz
    go_enter Try.func10, Try.ntmps10
    go_wp2_with fail
    have bx_2 := up (.cells #[.slice a1 len1 cap1] 31) (one_cell w (.slice a0 len0 cap0) 31) (by simp)
    have by_2 : ((w.alloc (.cells #[.slice a0 len0 cap0] 31)).alloc (.cells #[.slice a1 len1 cap1] 31)).cell? ⟨w.heap.size + 1, 0, none⟩ = some (.slice a1 len1 cap1) := by simp
    have hb := new2 w (.cells #[.slice a0 len0 cap0] 31) (.cells #[.slice a1 len1 cap1] 31)
    have bxl_2 : w.heap.size < ((w.alloc (.cells #[.slice a0 len0 cap0] 31)).alloc (.cells #[.slice a1 len1 cap1] 31)).heap.size := by simp; omega
    have byl_2 : w.heap.size + 1 < ((w.alloc (.cells #[.slice a0 len0 cap0] 31)).alloc (.cells #[.slice a1 len1 cap1] 31)).heap.size := by simp
    generalize (w.alloc _).alloc _ = W2 at bx_2 by_2 hb bxl_2 byl_2 ⊢
    have HB2 : Hid (Below w.heap.size w W2) := Lib.hid hb
    clear hb
    refine (count_store (by omega) (H0.out.below HB2.out) HB2.out.size (by omega) (by omega)).mono ?_
    rintro e W3 ⟨rfl, hb⟩
    rw [HZ.out]
    have HB3 : Hid (Below w.heap.size w W3) := Lib.hid (HB2.out.trans (hb.mono HB2.out.size))
    have HS3 : Hid (Below W2.heap.size W2 W3) := Lib.hid hb
    clear hb
    have bx_3 := (HS3.out.cell (p := ⟨w.heap.size, 0, none⟩) bxl_2).trans bx_2
    clear bx_2
    have bxl_3 := Nat.lt_of_lt_of_le bxl_2 HS3.out.size
    clear bxl_2
    have by_3 := (HS3.out.cell (p := ⟨w.heap.size + 1, 0, none⟩) byl_2).trans by_2
    clear by_2
    have byl_3 := Nat.lt_of_lt_of_le byl_2 HS3.out.size
    clear byl_2
    go_wp2_with fail
    refine (count_store (by omega) (H1.out.below HB3.out) HB3.out.size (by omega) (by omega)).mono ?_
    rintro e W4 ⟨rfl, hb⟩
    rw [HZ1.out]
    have HB4 : Hid (Below w.heap.size w W4) := Lib.hid (HB3.out.trans (hb.mono HB3.out.size))
    have HS4 : Hid (Below W3.heap.size W3 W4) := Lib.hid hb
    clear hb
    have bx_4 := (HS4.out.cell (p := ⟨w.heap.size, 0, none⟩) bxl_3).trans bx_3
    clear bx_3
    have bxl_4 := Nat.lt_of_lt_of_le bxl_3 HS4.out.size
    clear bxl_3
    have by_4 := (HS4.out.cell (p := ⟨w.heap.size + 1, 0, none⟩) byl_3).trans by_3
    clear by_3
    have byl_4 := Nat.lt_of_lt_of_le byl_3 HS4.out.size
    clear byl_3
    go_wp2_with fail
    go_ret
    exact ⟨rfl, HB4.out⟩
  have hz := szR_yes (left := lf) (ll := l1) (by omega)
  have HZ1 := Lib.hid hz
  clear hz
  have htot1 := tot_eq l1
  have HR1 := Lib.hid (H1.out.tight (by omega))
  have tz1 : decide (lf - (tot l1 : Int) < 0) = false := decide_eq_false (by omega)
  go_enter Try.func10, Try.ntmps10
  go_wp2_with fail
  have bx_2 := up (.cells #[.slice a1 len1 cap1] 31) (one_cell w (.slice a0 len0 cap0) 31) (by simp)
  have by_2 : ((w.alloc (.cells #[.slice a0 len0 cap0] 31)).alloc (.cells #[.slice a1 len1 cap1] 31)).cell? ⟨w.heap.size + 1, 0, none⟩ = some (.slice a1 len1 cap1) := by simp
  have hb := new2 w (.cells #[.slice a0 len0 cap0] 31) (.cells #[.slice a1 len1 cap1] 31)
  have bxl_2 : w.heap.size < ((w.alloc (.cells #[.slice a0 len0 cap0] 31)).alloc (.cells #[.slice a1 len1 cap1] 31)).heap.size := by simp; omega
  have byl_2 : w.heap.size + 1 < ((w.alloc (.cells #[.slice a0 len0 cap0] 31)).alloc (.cells #[.slice a1 len1 cap1] 31)).heap.size := by simp
  generalize (w.alloc _).alloc _ = W2 at bx_2 by_2 hb bxl_2 byl_2 ⊢
  have HB2 : Hid (Below w.heap.size w W2) := Lib.hid hb
  clear hb
  refine (count_store (by omega) (H0.out.below HB2.out) HB2.out.size (by omega) (by omega)).mono ?_
  rintro e W3 ⟨rfl, hb⟩
  rw [HZ.out]
  have HB3 : Hid (Below w.heap.size w W3) := Lib.hid (HB2.out.trans (hb.mono HB2.out.size))
  have HS3 : Hid (Below W2.heap.size W2 W3) := Lib.hid hb
  clear hb
  have bx_3 := (HS3.out.cell (p := ⟨w.heap.size, 0, none⟩) bxl_2).trans bx_2
  clear bx_2
  have bxl_3 := Nat.lt_of_lt_of_le bxl_2 HS3.out.size
  clear bxl_2
  have by_3 := (HS3.out.cell (p := ⟨w.heap.size + 1, 0, none⟩) byl_2).trans by_2
  clear by_2
  have byl_3 := Nat.lt_of_lt_of_le byl_2 HS3.out.size
  clear byl_2
  go_wp2_with fail
  refine (count_store (by omega) (H1.out.below HB3.out) HB3.out.size (by omega) (by omega)).mono ?_
  rintro e W4 ⟨rfl, hb⟩
  rw [HZ1.out]
  have HB4 : Hid (Below w.heap.size w W4) := Lib.hid (HB3.out.trans (hb.mono HB3.out.size))
  have HS4 : Hid (Below W3.heap.size W3 W4) := Lib.hid hb
  clear hb
  have bx_4 := (HS4.out.cell (p := ⟨w.heap.size, 0, none⟩) bxl_3).trans bx_3
  clear bx_3
  have bxl_4 := Nat.lt_of_lt_of_le bxl_3 HS4.out.size
  clear bxl_3
  have by_4 := (HS4.out.cell (p := ⟨w.heap.size + 1, 0, none⟩) byl_3).trans by_3
  clear by_3
  have byl_4 := Nat.lt_of_lt_of_le byl_3 HS4.out.size
  clear byl_3
  go_wp2_with fail
  go_region_held3 (fun w' => w'.cell? ⟨w.heap.size, 0, none⟩ = some (.slice a0 len0 cap0) ∧ w'.cell? ⟨w.heap.size + 1, 0, none⟩ = some (.slice a1 len1 cap1)) (go_keep) (first | (go_at_call 36; refine (Go.Proofs.Ytpejgjmkggmonaa.eqst.spec_stores (by omega) (by omega) ((hva.below hbb).more hbb.size) hvb (Nat.le_refl _)).mono ?_; rintro e W5 ⟨rfl, hbc⟩; have hbcw := hbbw.trans (hbc.mono hbbw.size); have bxc := (hbc.cell (p := ⟨w.heap.size, 0, none⟩) (Nat.lt_of_lt_of_le bxl_4 (Nat.le_trans hba.size hbb.size))).trans bxb; have byc := (hbc.cell (p := ⟨w.heap.size + 1, 0, none⟩) (Nat.lt_of_lt_of_le byl_4 (Nat.le_trans hba.size hbb.size))).trans byb) | (go_at_call 20; have hq := hbaw; refine (copy_store (by omega) (by omega) (HR1.out.below hbaw) hbaw.size).mono ?_; rintro e Wb ⟨Nb, rfl, hN2, hvb, hbb⟩; have hbbw := hbaw.trans (hbb.mono hbaw.size); have bxb := (hbb.cell (p := ⟨w.heap.size, 0, none⟩) (Nat.lt_of_lt_of_le bxl_4 hba.size)).trans bxa; have byb := (hbb.cell (p := ⟨w.heap.size + 1, 0, none⟩) (Nat.lt_of_lt_of_le byl_4 hba.size)).trans bya) | (go_at_call 20; refine (copy_store (w := W4.drew) (by omega) (by omega) (HR.out.below HB4.out.drew) HB4.out.size).mono ?_; rintro e Wa ⟨Na, rfl, hN, hva, hba⟩; replace hba := ((Below.refl W4.heap.size W4).drew).trans hba; have hbaw := HB4.out.trans (hba.mono HB4.out.size); have bxa := (hba.cell (p := ⟨w.heap.size, 0, none⟩) bxl_4).trans bx_4; have bya := (hba.cell (p := ⟨w.heap.size + 1, 0, none⟩) byl_4).trans by_4))
  have hb := hba.trans ((hbb.trans (hbc.mono hbb.size)).mono hba.size)
  clear hva hvb hN hN2 hbaw hbbw hbcw hba hbb hbc bxa bxb bxc bya byb byc
  have HB5 : Hid (Below w.heap.size w W5) := Lib.hid (HB4.out.trans (hb.mono HB4.out.size))
  have HS5 : Hid (Below W4.heap.size W4 W5) := Lib.hid hb
  clear hb
  have bx_5 := (HS5.out.cell (p := ⟨w.heap.size, 0, none⟩) bxl_4).trans bx_4
  clear bx_4
  have bxl_5 := Nat.lt_of_lt_of_le bxl_4 HS5.out.size
  clear bxl_4
  have by_5 := (HS5.out.cell (p := ⟨w.heap.size + 1, 0, none⟩) byl_4).trans by_4
  clear by_4
  have byl_5 := Nat.lt_of_lt_of_le byl_4 HS5.out.size
  clear byl_4
  go_wp2_with fail
  refine (copy_store (by omega) (by omega) (HR.out.below HB5.out) HB5.out.size).mono ?_
  rintro e W6 ⟨Ns2, rfl, hN, hv, hb⟩
  clear hN
  have HB6 : Hid (Below w.heap.size w W6) := Lib.hid (HB5.out.trans (hb.mono HB5.out.size))
  have HS6 : Hid (Below W5.heap.size W5 W6) := Lib.hid hb
  clear hb
  have bx_6 := (HS6.out.cell (p := ⟨w.heap.size, 0, none⟩) bxl_5).trans bx_5
  clear bx_5
  have bxl_6 := Nat.lt_of_lt_of_le bxl_5 HS6.out.size
  clear bxl_5
  have by_6 := (HS6.out.cell (p := ⟨w.heap.size + 1, 0, none⟩) byl_5).trans by_5
  clear by_5
  have byl_6 := Nat.lt_of_lt_of_le byl_5 HS6.out.size
  clear byl_5
  have s2_6 := Lib.hid hv
  clear hv
  go_wp2_with fail
  have hx := one_cell W6 (.slice (some ⟨Ns2, 0, none⟩) len0 len0) 24
  have hb := new1 W6 (.cells #[.slice (some ⟨Ns2, 0, none⟩) len0 len0] 24)
  have hlt : W6.heap.size < (W6.alloc (.cells #[.slice (some ⟨Ns2, 0, none⟩) len0 len0] 24)).heap.size := by simp
  generalize W6.alloc (.cells #[.slice (some ⟨Ns2, 0, none⟩) len0 len0] 24) = W7 at hx hb hlt ⊢
  have HB7 : Hid (Below w.heap.size w W7) := Lib.hid (HB6.out.trans (hb.mono HB6.out.size))
  have HS7 : Hid (Below W6.heap.size W6 W7) := Lib.hid hb
  clear hb
  have bx_7 := (HS7.out.cell (p := ⟨w.heap.size, 0, none⟩) bxl_6).trans bx_6
  clear bx_6
  have bxl_7 := Nat.lt_of_lt_of_le bxl_6 HS7.out.size
  clear bxl_6
  have by_7 := (HS7.out.cell (p := ⟨w.heap.size + 1, 0, none⟩) byl_6).trans by_6
  clear by_6
  have byl_7 := Nat.lt_of_lt_of_le byl_6 HS7.out.size
  clear byl_6
  have s2_7 := Lib.hid ((s2_6.out.below HS7.out).more HS7.out.size)
  clear s2_6
  have bz_7 := hx
  have bzl_7 := hlt
  clear hx hlt
  refine (copy_store (by omega) (by omega) (HR1.out.below HB7.out) HB7.out.size).mono ?_
  rintro e W8 ⟨Ns4, rfl, hN, hv, hb⟩
  clear hN
  have HB8 : Hid (Below w.heap.size w W8) := Lib.hid (HB7.out.trans (hb.mono HB7.out.size))
  have HS8 : Hid (Below W7.heap.size W7 W8) := Lib.hid hb
  clear hb
  have bx_8 := (HS8.out.cell (p := ⟨w.heap.size, 0, none⟩) bxl_7).trans bx_7
  clear bx_7
  have bxl_8 := Nat.lt_of_lt_of_le bxl_7 HS8.out.size
  clear bxl_7
  have by_8 := (HS8.out.cell (p := ⟨w.heap.size + 1, 0, none⟩) byl_7).trans by_7
  clear by_7
  have byl_8 := Nat.lt_of_lt_of_le byl_7 HS8.out.size
  clear byl_7
  have bz_8 := (HS8.out.cell (p := ⟨W6.heap.size, 0, none⟩) bzl_7).trans bz_7
  clear bz_7
  have bzl_8 := Nat.lt_of_lt_of_le bzl_7 HS8.out.size
  clear bzl_7
  have s2_8 := Lib.hid ((s2_7.out.below HS8.out).more HS8.out.size)
  clear s2_7
  have s4_8 := Lib.hid hv
  clear hv
  go_wp2_with fail
  have hx := one_cell W8 (.slice (some ⟨Ns4, 0, none⟩) len1 len1) 24
  have hb := new1 W8 (.cells #[.slice (some ⟨Ns4, 0, none⟩) len1 len1] 24)
  have hlt : W8.heap.size < (W8.alloc (.cells #[.slice (some ⟨Ns4, 0, none⟩) len1 len1] 24)).heap.size := by simp
  generalize W8.alloc (.cells #[.slice (some ⟨Ns4, 0, none⟩) len1 len1] 24) = W9 at hx hb hlt ⊢
  have HB9 : Hid (Below w.heap.size w W9) := Lib.hid (HB8.out.trans (hb.mono HB8.out.size))
  have HS9 : Hid (Below W8.heap.size W8 W9) := Lib.hid hb
  clear hb
  have bx_9 := (HS9.out.cell (p := ⟨w.heap.size, 0, none⟩) bxl_8).trans bx_8
  clear bx_8
  have bxl_9 := Nat.lt_of_lt_of_le bxl_8 HS9.out.size
  clear bxl_8
  have by_9 := (HS9.out.cell (p := ⟨w.heap.size + 1, 0, none⟩) byl_8).trans by_8
  clear by_8
  have byl_9 := Nat.lt_of_lt_of_le byl_8 HS9.out.size
  clear byl_8
  have bz_9 := (HS9.out.cell (p := ⟨W6.heap.size, 0, none⟩) bzl_8).trans bz_8
  clear bz_8
  have bzl_9 := Nat.lt_of_lt_of_le bzl_8 HS9.out.size
  clear bzl_8
  have s2_9 := Lib.hid ((s2_8.out.below HS9.out).more HS9.out.size)
  clear s2_8
  have s4_9 := Lib.hid ((s4_8.out.below HS9.out).more HS9.out.size)
  clear s4_8
  have bu_9 := hx
  have bul_9 := hlt
  clear hx hlt
  refine (Go.Proofs.Ytpejgjmkggmonaa.eqst.impl_stores (by omega) (by omega) s2_9.out s4_9.out (Nat.le_refl _)).mono ?_
  rintro e W10 ⟨rfl, hb⟩
  have HB10 : Hid (Below w.heap.size w W10) := Lib.hid (HB9.out.trans (hb.mono HB9.out.size))
  have HS10 : Hid (Below W9.heap.size W9 W10) := Lib.hid hb
  clear hb
  have bx_10 := (HS10.out.cell (p := ⟨w.heap.size, 0, none⟩) bxl_9).trans bx_9
  clear bx_9
  have bxl_10 := Nat.lt_of_lt_of_le bxl_9 HS10.out.size
  clear bxl_9
  have by_10 := (HS10.out.cell (p := ⟨w.heap.size + 1, 0, none⟩) byl_9).trans by_9
  clear by_9
  have byl_10 := Nat.lt_of_lt_of_le byl_9 HS10.out.size
  clear byl_9
  have bz_10 := (HS10.out.cell (p := ⟨W6.heap.size, 0, none⟩) bzl_9).trans bz_9
  clear bz_9
  have bzl_10 := Nat.lt_of_lt_of_le bzl_9 HS10.out.size
  clear bzl_9
  have bu_10 := (HS10.out.cell (p := ⟨W8.heap.size, 0, none⟩) bul_9).trans bu_9
  clear bu_9
  have bul_10 := Nat.lt_of_lt_of_le bul_9 HS10.out.size
  clear bul_9
  have s2_10 := Lib.hid ((s2_9.out.below HS10.out).more HS10.out.size)
  clear s2_9
  have s4_10 := Lib.hid ((s4_9.out.below HS10.out).more HS10.out.size)
  clear s4_9
  go_wp2_with fail
  go_region_held3 (fun w' => w'.cell? ⟨w.heap.size, 0, none⟩ = some (.slice a0 len0 cap0) ∧ w'.cell? ⟨W6.heap.size, 0, none⟩ = some (.slice (some ⟨Ns2, 0, none⟩) len0 len0)) (go_keep) (first | (go_at_call 20; refine (copy_store (w := W10.drew) (by omega) (by omega) (HR.out.below HB10.out.drew) HB10.out.size).mono ?_; rintro e Wa ⟨Na, rfl, hN, hva, hba⟩; replace hba := ((Below.refl W10.heap.size W10).drew).trans hba; have bxa := (hba.cell (p := ⟨w.heap.size, 0, none⟩) bxl_10).trans bx_10; have bza := (hba.cell (p := ⟨W6.heap.size, 0, none⟩) bzl_10).trans bz_10) | (go_at_call 15; refine (same_store (by omega) ((s2_10.out.below hba).more hba.size) hva (Nat.le_refl _)).mono ?_; rintro e W11 ⟨rfl, hbb⟩; have bxb := (hbb.cell (p := ⟨w.heap.size, 0, none⟩) (Nat.lt_of_lt_of_le bxl_10 hba.size)).trans bxa; have bzb := (hbb.cell (p := ⟨W6.heap.size, 0, none⟩) (Nat.lt_of_lt_of_le bzl_10 hba.size)).trans bza))
  have hb := hba.trans (hbb.mono hba.size)
  clear hva hN hba hbb bxa bxb bza bzb
  have HB11 : Hid (Below w.heap.size w W11) := Lib.hid (HB10.out.trans (hb.mono HB10.out.size))
  have HS11 : Hid (Below W10.heap.size W10 W11) := Lib.hid hb
  clear hb
  have bx_11 := (HS11.out.cell (p := ⟨w.heap.size, 0, none⟩) bxl_10).trans bx_10
  clear bx_10
  have bxl_11 := Nat.lt_of_lt_of_le bxl_10 HS11.out.size
  clear bxl_10
  have by_11 := (HS11.out.cell (p := ⟨w.heap.size + 1, 0, none⟩) byl_10).trans by_10
  clear by_10
  have byl_11 := Nat.lt_of_lt_of_le byl_10 HS11.out.size
  clear byl_10
  have bz_11 := (HS11.out.cell (p := ⟨W6.heap.size, 0, none⟩) bzl_10).trans bz_10
  clear bz_10
  have bzl_11 := Nat.lt_of_lt_of_le bzl_10 HS11.out.size
  clear bzl_10
  have bu_11 := (HS11.out.cell (p := ⟨W8.heap.size, 0, none⟩) bul_10).trans bu_10
  clear bu_10
  have bul_11 := Nat.lt_of_lt_of_le bul_10 HS11.out.size
  clear bul_10
  have s2_11 := Lib.hid ((s2_10.out.below HS11.out).more HS11.out.size)
  clear s2_10
  have s4_11 := Lib.hid ((s4_10.out.below HS11.out).more HS11.out.size)
  clear s4_10
  go_wp2_with fail
  go_region_held3 (fun w' => w'.cell? ⟨w.heap.size + 1, 0, none⟩ = some (.slice a1 len1 cap1) ∧ w'.cell? ⟨W8.heap.size, 0, none⟩ = some (.slice (some ⟨Ns4, 0, none⟩) len1 len1)) (go_keep) (first | (go_at_call 20; refine (copy_store (w := W11.drew) (by omega) (by omega) (HR1.out.below HB11.out.drew) HB11.out.size).mono ?_; rintro e Wa ⟨Na, rfl, hN, hva, hba⟩; replace hba := ((Below.refl W11.heap.size W11).drew).trans hba; have bya := (hba.cell (p := ⟨w.heap.size + 1, 0, none⟩) byl_11).trans by_11; have bua := (hba.cell (p := ⟨W8.heap.size, 0, none⟩) bul_11).trans bu_11) | (go_at_call 15; refine (same_store (by omega) ((s4_11.out.below hba).more hba.size) hva (Nat.le_refl _)).mono ?_; rintro e W12 ⟨rfl, hbb⟩; have byb := (hbb.cell (p := ⟨w.heap.size + 1, 0, none⟩) (Nat.lt_of_lt_of_le byl_11 hba.size)).trans bya; have bub := (hbb.cell (p := ⟨W8.heap.size, 0, none⟩) (Nat.lt_of_lt_of_le bul_11 hba.size)).trans bua))
  have hb := hba.trans (hbb.mono hba.size)
  clear hva hN hba hbb bya byb bua bub
  have HB12 : Hid (Below w.heap.size w W12) := Lib.hid (HB11.out.trans (hb.mono HB11.out.size))
  have HS12 : Hid (Below W11.heap.size W11 W12) := Lib.hid hb
  clear hb
  have bx_12 := (HS12.out.cell (p := ⟨w.heap.size, 0, none⟩) bxl_11).trans bx_11
  clear bx_11
  have bxl_12 := Nat.lt_of_lt_of_le bxl_11 HS12.out.size
  clear bxl_11
  have by_12 := (HS12.out.cell (p := ⟨w.heap.size + 1, 0, none⟩) byl_11).trans by_11
  clear by_11
  have byl_12 := Nat.lt_of_lt_of_le byl_11 HS12.out.size
  clear byl_11
  have bz_12 := (HS12.out.cell (p := ⟨W6.heap.size, 0, none⟩) bzl_11).trans bz_11
  clear bz_11
  have bzl_12 := Nat.lt_of_lt_of_le bzl_11 HS12.out.size
  clear bzl_11
  have bu_12 := (HS12.out.cell (p := ⟨W8.heap.size, 0, none⟩) bul_11).trans bu_11
  clear bu_11
  have bul_12 := Nat.lt_of_lt_of_le bul_11 HS12.out.size
  clear bul_11
  have s2_12 := Lib.hid ((s2_11.out.below HS12.out).more HS12.out.size)
  clear s2_11
  have s4_12 := Lib.hid ((s4_11.out.below HS12.out).more HS12.out.size)
  clear s4_11
  go_wp2_with fail
  go_ret
  exact ⟨rfl, HB12.out⟩
/-! ### THE ROW's STEP -/
set_option maxRecDepth 100000 in
theorem lifted (os : Os) (started : os.Started) (H : Type) (enc : TypeId × Value → H) :
    ReturnsInHanded {} Try.checked os 10 .any (Rows.fnExactEqualStoresSpec.pre6 enc Try.prog Try.f10 Rows.fnExactEqualStoresRow.domain false) (Rows.fnExactEqualStoresSpec.post enc Try.prog Try.f10 false true false false) := by
  refine returnsInHanded_of_change (C := Try.checked) own started (by kernel_rfl) Try.func10
    (ChangeSpec.witness6 (enc := enc) (C := Try.checked) false ⟨#[], #[.agg #[.slice none 0 0], .agg #[.slice none 0 0]], []⟩ 8 (by kernel_rfl) (by kernel_rfl) (by kernel_rfl) (by kernel_rfl)) ?_
  intro W base args ds gs before hval0 hW hcnd _
  have hval : ∀ (j : Nat) t v, Try.f10.params[j]? = some t → args[j]? = some v → Value.okWide Try.prog W .any base t v := hval0
  have hW' := hW
  obtain ⟨p, q, hA0, hV, rfl, hfz, hnd⟩ := hW
  have hA : DataW.TrodAll enc Try.prog W 0 (fun _ => true) true Try.f10.params.toList args.toList ds p := hA0
  rw [Try.params10] at hA hval
  obtain ⟨v0, vs0, d0, ds0, p0, q0, hargs, rfl, rfl, h0, r0⟩ := trodAll_cons hA
  obtain ⟨v1, vs1, d1, ds1, p1, q1, rfl, rfl, rfl, h1, r1⟩ := trodAll_cons r0
  obtain ⟨rfl, rfl, rfl⟩ := trodAll_nil r1
  obtain rfl : args = #[v0, v1] := by cases args; simp_all
  obtain ⟨rfl, rfl⟩ := trodVars_none hV
  have k0 := h0
  have lt0 : ∀ x ∈ p0, x.block < W.heap.size := by obtain ⟨m, hm⟩ := k0; exact DataW.trod_lt m _ _ _ hm
  obtain ⟨a0, len0, cap0, l0, rfl, w0, m0⟩ := open_store (hval 0 31 v0 rfl rfl) h0
  have k1 := h1
  have lt1 : ∀ x ∈ p1, x.block < W.heap.size := by obtain ⟨m, hm⟩ := k1; exact DataW.trod_lt m _ _ _ hm
  obtain ⟨a1, len1, cap1, l1, rfl, w1, m1⟩ := open_store (hval 1 31 v1 rfl rfl) h1
  clear hA0 hval0
  refine (walk a0 len0 cap0 l0 a1 len1 cap1 l1 W w0 m0 w1 m1).mono fun e W' ⟨he, bel⟩ => ?_
  subst he
  exact ⟨_, rfl, _, _, _, [], _, [], hW', trodAll_mk1 (shut_bool Try.underlying4 _), (trodAll_cons_mk (Below.trod laidOut (by kernel_rfl) (of_decide_eq_true (by kernel_rfl)) k0 bel lt0) (trodAll_cons_mk (Below.trod laidOut (by kernel_rfl) (of_decide_eq_true (by kernel_rfl)) k1 bel lt1) trodAll_mk0)), rfl, bel.frame _, fun h => by cases h⟩

theorem over : Rows.fnExactEqualStoresRow.holds Try.pinned (OpenSpec.ofChange Rows.fnExactEqualStoresSpec) :=
  OpenClaim.holds_of_wide 10 Try.f10 rfl rfl rfl rfl rfl rfl rfl ⟨rfl, rfl, rfl, rfl, rfl⟩ rfl rfl rfl rfl rfl (by kernel_rfl) Try.func10 (by kernel_rfl)
    (of_decide_eq_true (by kernel_rfl)) (by unfold Func.isWrapper; first | (rw [if_pos (by decide +kernel)]; kernel_rfl) | (rw [if_neg (by decide +kernel)]; exact ⟨rfl, rfl⟩))
    (fun os started H enc _ => lifted os started H enc)

/-- THE STATEMENT -/
theorem proved : Rows.FnExactEqualStoresSaid := over
#print axioms proved
end Go.Proofs.Ytpejgjmkggmonaa.fnExactEqualStores
