/- LastStamp of the program answers as its model at every store: the law returns true and writes nothing that was there. No condition. -/
import Derived.Test.YtmohpkkfbgjboaaOpenS
import Derived.Test.YtmohpkkfbgjboaaLast
import Derived.WalkKit
import Derived.ProofKit
import Derived.OpenShut
import Derived.ShutString
import Derived.ChangeOld
import Derived.Below
import Derived.Carry
import Derived.Lib.Hide
import Derived.StillTailTactics
import Derived.Deep.RegionHeld3
import Derived.Deep.DeepHandedRow
namespace Go.Proofs.Ytmohpkkfbgjboaa.fnExactLastStamp
open Go.ChangeShapes Go.WideShapes Go.ChangeAt Go.RowKit
open Go.ChangeMaps (open_string shut_string)
open Go.Proofs.Ytmohpkkfbgjboaa.vers Go.Proofs.Ytmohpkkfbgjboaa.sl Go.Proofs.Ytmohpkkfbgjboaa.opn Go.Proofs.Ytmohpkkfbgjboaa.ch Go.Proofs.Ytmohpkkfbgjboaa.st Go.Proofs.Ytmohpkkfbgjboaa.opns Go.Proofs.Ytmohpkkfbgjboaa.last
set_option linter.unusedVariables false
theorem walk (a0 : Option Addr) (len0 cap0 : Nat) (l0 : List (List Ver)) (w : World) (h0 : R0 w w.heap.size a0 len0 l0) (m0 : len0 ≤ maxLen) :
    Calls Try.prog 9 #[.agg #[.slice a0 len0 cap0]] w fun e w' => e = .returned (.bool true) ∧ Below w.heap.size w w' := by
  unfold maxLen at m0
  have H0 := Lib.hid h0
  have hlen := h0.1
  clear h0
  by_cases hbig : (1048576 : Int) < tot l0
  · have hz := szR_no hbig
    have HZ := Lib.hid hz
    clear hz
    go_enter Try.func9, Try.ntmps9
    go_wp2_with fail
    have hx := one_cell w (.slice a0 len0 cap0) 37
    have hb := new1 w (.cells #[.slice a0 len0 cap0] 37)
    have hlt : w.heap.size < (w.alloc (.cells #[.slice a0 len0 cap0] 37)).heap.size := by simp
    generalize w.alloc (.cells #[.slice a0 len0 cap0] 37) = W1 at hx hb hlt ⊢
    have HB1 : Hid (Below w.heap.size w W1) := Lib.hid hb
    have HS1 : Hid (Below w.heap.size w W1) := Lib.hid hb
    clear hb
    have bx_1 := hx
    have bxl_1 := hlt
    clear hx hlt
    refine (count_store (by omega) (H0.out.below HB1.out) HB1.out.size (by omega) (by omega)).mono ?_
    rintro e W2 ⟨rfl, hb⟩
    rw [HZ.out]
    have HB2 : Hid (Below w.heap.size w W2) := Lib.hid (HB1.out.trans (hb.mono HB1.out.size))
    have HS2 : Hid (Below W1.heap.size W1 W2) := Lib.hid hb
    clear hb
    have bx_2 := (HS2.out.cell (p := ⟨w.heap.size, 0, none⟩) bxl_1).trans bx_1
    clear bx_1
    have bxl_2 := Nat.lt_of_lt_of_le bxl_1 HS2.out.size
    clear bxl_1
    go_wp2_with fail
    go_ret
    exact ⟨rfl, HB2.out⟩
  have hz := szR_yes (left := 1048576) (ll := l0) (by omega)
  have HZ := Lib.hid hz
  clear hz
  have htot := tot_eq l0
  have HR := Lib.hid (H0.out.tight (by omega))
  have tz : decide ((1048576 : Int) - (tot l0 : Int) < 0) = false := decide_eq_false (by omega)
  go_enter Try.func9, Try.ntmps9
  go_wp2_with fail
  have hx := one_cell w (.slice a0 len0 cap0) 37
  have hb := new1 w (.cells #[.slice a0 len0 cap0] 37)
  have hlt : w.heap.size < (w.alloc (.cells #[.slice a0 len0 cap0] 37)).heap.size := by simp
  generalize w.alloc (.cells #[.slice a0 len0 cap0] 37) = W1 at hx hb hlt ⊢
  have HB1 : Hid (Below w.heap.size w W1) := Lib.hid hb
  have HS1 : Hid (Below w.heap.size w W1) := Lib.hid hb
  clear hb
  have bx_1 := hx
  have bxl_1 := hlt
  clear hx hlt
  refine (count_store (by omega) (H0.out.below HB1.out) HB1.out.size (by omega) (by omega)).mono ?_
  rintro e W2 ⟨rfl, hb⟩
  rw [HZ.out]
  have HB2 : Hid (Below w.heap.size w W2) := Lib.hid (HB1.out.trans (hb.mono HB1.out.size))
  have HS2 : Hid (Below W1.heap.size W1 W2) := Lib.hid hb
  clear hb
  have bx_2 := (HS2.out.cell (p := ⟨w.heap.size, 0, none⟩) bxl_1).trans bx_1
  clear bx_1
  have bxl_2 := Nat.lt_of_lt_of_le bxl_1 HS2.out.size
  clear bxl_1
  go_wp2_with fail
  refine (copy_store (by omega) (by omega) (HR.out.below HB2.out) HB2.out.size).mono ?_
  rintro e W3 ⟨Ns1, rfl, hN, hv, hb⟩
  clear hN
  have HB3 : Hid (Below w.heap.size w W3) := Lib.hid (HB2.out.trans (hb.mono HB2.out.size))
  have HS3 : Hid (Below W2.heap.size W2 W3) := Lib.hid hb
  clear hb
  have bx_3 := (HS3.out.cell (p := ⟨w.heap.size, 0, none⟩) bxl_2).trans bx_2
  clear bx_2
  have bxl_3 := Nat.lt_of_lt_of_le bxl_2 HS3.out.size
  clear bxl_2
  have s1_3 := Lib.hid hv
  clear hv
  go_wp2_with fail
  refine (Go.Proofs.Ytmohpkkfbgjboaa.last.spec_last (by omega) s1_3.out (Nat.le_refl _)).mono ?_
  rintro e W4 ⟨rfl, hb⟩
  have HB4 : Hid (Below w.heap.size w W4) := Lib.hid (HB3.out.trans (hb.mono HB3.out.size))
  have HS4 : Hid (Below W3.heap.size W3 W4) := Lib.hid hb
  clear hb
  have bx_4 := (HS4.out.cell (p := ⟨w.heap.size, 0, none⟩) bxl_3).trans bx_3
  clear bx_3
  have bxl_4 := Nat.lt_of_lt_of_le bxl_3 HS4.out.size
  clear bxl_3
  have s1_4 := Lib.hid ((s1_3.out.below HS4.out).more HS4.out.size)
  clear s1_3
  go_wp2_with fail
  refine (copy_store (by omega) (by omega) (HR.out.below HB4.out) HB4.out.size).mono ?_
  rintro e W5 ⟨Ns2, rfl, hN, hv, hb⟩
  clear hN
  have HB5 : Hid (Below w.heap.size w W5) := Lib.hid (HB4.out.trans (hb.mono HB4.out.size))
  have HS5 : Hid (Below W4.heap.size W4 W5) := Lib.hid hb
  clear hb
  have bx_5 := (HS5.out.cell (p := ⟨w.heap.size, 0, none⟩) bxl_4).trans bx_4
  clear bx_4
  have bxl_5 := Nat.lt_of_lt_of_le bxl_4 HS5.out.size
  clear bxl_4
  have s1_5 := Lib.hid ((s1_4.out.below HS5.out).more HS5.out.size)
  clear s1_4
  have s2_5 := Lib.hid hv
  clear hv
  go_wp2_with fail
  have hx := one_cell W5 (.slice (some ⟨Ns2, 0, none⟩) len0 len0) 42
  have hb := new1 W5 (.cells #[.slice (some ⟨Ns2, 0, none⟩) len0 len0] 42)
  have hlt : W5.heap.size < (W5.alloc (.cells #[.slice (some ⟨Ns2, 0, none⟩) len0 len0] 42)).heap.size := by simp
  generalize W5.alloc (.cells #[.slice (some ⟨Ns2, 0, none⟩) len0 len0] 42) = W6 at hx hb hlt ⊢
  have HB6 : Hid (Below w.heap.size w W6) := Lib.hid (HB5.out.trans (hb.mono HB5.out.size))
  have HS6 : Hid (Below W5.heap.size W5 W6) := Lib.hid hb
  clear hb
  have bx_6 := (HS6.out.cell (p := ⟨w.heap.size, 0, none⟩) bxl_5).trans bx_5
  clear bx_5
  have bxl_6 := Nat.lt_of_lt_of_le bxl_5 HS6.out.size
  clear bxl_5
  have s1_6 := Lib.hid ((s1_5.out.below HS6.out).more HS6.out.size)
  clear s1_5
  have s2_6 := Lib.hid ((s2_5.out.below HS6.out).more HS6.out.size)
  clear s2_5
  have by_6 := hx
  have byl_6 := hlt
  clear hx hlt
  refine (Go.Proofs.Ytmohpkkfbgjboaa.last.impl_last (by omega) s2_6.out (Nat.le_refl _)).mono ?_
  rintro e W7 ⟨rfl, hb⟩
  have HB7 : Hid (Below w.heap.size w W7) := Lib.hid (HB6.out.trans (hb.mono HB6.out.size))
  have HS7 : Hid (Below W6.heap.size W6 W7) := Lib.hid hb
  clear hb
  have bx_7 := (HS7.out.cell (p := ⟨w.heap.size, 0, none⟩) bxl_6).trans bx_6
  clear bx_6
  have bxl_7 := Nat.lt_of_lt_of_le bxl_6 HS7.out.size
  clear bxl_6
  have by_7 := (HS7.out.cell (p := ⟨W5.heap.size, 0, none⟩) byl_6).trans by_6
  clear by_6
  have byl_7 := Nat.lt_of_lt_of_le byl_6 HS7.out.size
  clear byl_6
  have s1_7 := Lib.hid ((s1_6.out.below HS7.out).more HS7.out.size)
  clear s1_6
  have s2_7 := Lib.hid ((s2_6.out.below HS7.out).more HS7.out.size)
  clear s2_6
  go_wp2_with fail
  go_region_held3 (fun w' => w'.cell? ⟨w.heap.size, 0, none⟩ = some (.slice a0 len0 cap0) ∧ w'.cell? ⟨W5.heap.size, 0, none⟩ = some (.slice (some ⟨Ns2, 0, none⟩) len0 len0)) (go_keep) (first | (go_at_call 21; refine (copy_store (w := W7.drew) (by omega) (by omega) (HR.out.below HB7.out.drew) HB7.out.size).mono ?_; rintro e Wd ⟨N3, rfl, hN, hv, hb⟩; replace hb := ((Below.refl W7.heap.size W7).drew).trans hb; have bxd := (hb.cell (p := ⟨w.heap.size, 0, none⟩) bxl_7).trans bx_7; have byd := (hb.cell (p := ⟨W5.heap.size, 0, none⟩) byl_7).trans by_7) | (go_at_call 23; refine (same_store (by omega) ((s2_7.out.below hb).more hb.size) hv (Nat.le_refl _)).mono ?_; rintro e We ⟨rfl, hb2⟩; have bxe := (hb2.cell (p := ⟨w.heap.size, 0, none⟩) (Nat.lt_of_lt_of_le bxl_7 hb.size)).trans bxd; have bye := (hb2.cell (p := ⟨W5.heap.size, 0, none⟩) (Nat.lt_of_lt_of_le byl_7 hb.size)).trans byd))
  have hbz := hb.trans (hb2.mono hb.size)
  clear bx_7 bxd bxe
  clear by_7 byd bye
  have HB8 : Hid (Below w.heap.size w We) := Lib.hid (HB7.out.trans (hbz.mono HB7.out.size))
  clear hb hb2 hbz hv hN
  go_wp2_with fail
  go_ret
  exact ⟨rfl, HB8.out⟩
/-! ### THE ROW's STEP -/
set_option maxRecDepth 100000 in
theorem lifted (os : Os) (started : os.Started) (H : Type) (enc : TypeId × Value → H) :
    ReturnsInHanded {} Try.checked os 9 .any (Rows.fnExactLastStampSpec.pre6 enc Try.prog Try.f9 Rows.fnExactLastStampRow.domain false) (Rows.fnExactLastStampSpec.post enc Try.prog Try.f9 false true false false) := by
  refine returnsInHanded_of_change (C := Try.checked) own started (by kernel_rfl) Try.func9
    (ChangeSpec.witness6 (enc := enc) (C := Try.checked) false ⟨#[], #[.agg #[.slice none 0 0]], []⟩ 8 (by kernel_rfl) (by kernel_rfl) (by kernel_rfl) (by kernel_rfl)) ?_
  intro W base args ds gs before hval0 hW hcnd _
  have hval : ∀ (j : Nat) t v, Try.f9.params[j]? = some t → args[j]? = some v → Value.okWide Try.prog W .any base t v := hval0
  have hW' := hW
  obtain ⟨p, q, hA0, hV, rfl, hfz, hnd⟩ := hW
  have hA : DataW.TrodAll enc Try.prog W 0 (fun _ => true) true Try.f9.params.toList args.toList ds p := hA0
  rw [Try.params9] at hA hval
  obtain ⟨v0, vs0, d0, ds0, p0, q0, hargs, rfl, rfl, h0, r0⟩ := trodAll_cons hA
  obtain ⟨rfl, rfl, rfl⟩ := trodAll_nil r0
  obtain rfl : args = #[v0] := by cases args; simp_all
  obtain ⟨rfl, rfl⟩ := trodVars_none hV
  have k0 := h0
  have lt0 : ∀ x ∈ p0, x.block < W.heap.size := by obtain ⟨m, hm⟩ := k0; exact DataW.trod_lt m _ _ _ hm
  obtain ⟨a0, len0, cap0, l0, rfl, w0, m0⟩ := open_store (hval 0 37 v0 rfl rfl) h0
  clear hA0 hval0
  refine (walk a0 len0 cap0 l0 W w0 m0).mono fun e W' ⟨he, bel⟩ => ?_
  subst he
  exact ⟨_, rfl, _, _, _, [], _, [], hW', trodAll_mk1 (shut_bool Try.underlying4 _), (trodAll_cons_mk (Below.trod laidOut (by kernel_rfl) (of_decide_eq_true (by kernel_rfl)) k0 bel lt0) trodAll_mk0), rfl, bel.frame _, fun h => by cases h⟩

theorem over : Rows.fnExactLastStampRow.holds Try.pinned (OpenSpec.ofChange Rows.fnExactLastStampSpec) :=
  OpenClaim.holds_of_wide 9 Try.f9 rfl rfl rfl rfl rfl rfl rfl ⟨rfl, rfl, rfl, rfl, rfl⟩ rfl rfl rfl rfl rfl (by kernel_rfl) Try.func9 (by kernel_rfl)
    (of_decide_eq_true (by kernel_rfl)) (by unfold Func.isWrapper; first | (rw [if_pos (by decide +kernel)]; kernel_rfl) | (rw [if_neg (by decide +kernel)]; exact ⟨rfl, rfl⟩))
    (fun os started H enc _ => lifted os started H enc)

/-- THE STATEMENT -/
theorem proved : Rows.FnExactLastStampSaid := over
#print axioms proved
end Go.Proofs.Ytmohpkkfbgjboaa.fnExactLastStamp
