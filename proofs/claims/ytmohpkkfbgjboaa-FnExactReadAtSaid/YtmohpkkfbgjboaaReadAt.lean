/- ReadAt of the program answers as its model at every store and every two integers: the law returns true and writes nothing that was there. No condition. -/
import Derived.Test.YtmohpkkfbgjboaaOpenS
import Derived.Test.YtmohpkkfbgjboaaRd
import Derived.WalkKit
import Derived.ProofKit
import Derived.OpenShut
import Derived.ShutString
import Derived.ChangeOld
import Derived.Below
import Derived.Carry
import Derived.Lib.Hide
import Derived.StillTailTactics
import Derived.Deep.RegionHeld3
import Derived.Deep.DeepHandedRow
namespace Go.Proofs.Ytmohpkkfbgjboaa.fnExactReadAt
open Go.ChangeShapes Go.WideShapes Go.ChangeAt Go.RowKit
open Go.ChangeMaps (open_string shut_string)
open Go.Proofs.Ytmohpkkfbgjboaa.vers Go.Proofs.Ytmohpkkfbgjboaa.sl Go.Proofs.Ytmohpkkfbgjboaa.opn Go.Proofs.Ytmohpkkfbgjboaa.ch Go.Proofs.Ytmohpkkfbgjboaa.st Go.Proofs.Ytmohpkkfbgjboaa.opns Go.Proofs.Ytmohpkkfbgjboaa.rd
set_option linter.unusedVariables false
theorem walk (a0 : Option Addr) (len0 cap0 : Nat) (l0 : List (List Ver)) (a1 : Int) (a2 : Int) (w : World) (h0 : R0 w w.heap.size a0 len0 l0) (m0 : len0 ≤ maxLen) (b1 : (Lit.int .i64 a1).wf = true) (b2 : (Lit.int .i64 a2).wf = true) :
    Calls Try.prog 7 #[.agg #[.slice a0 len0 cap0], .int .i64 a1, .int .i64 a2] w fun e w' => e = .returned (.bool true) ∧ Below w.heap.size w w' := by
  unfold maxLen at m0
  have H0 := Lib.hid h0
  have hlen := h0.1
  clear h0
  by_cases hbig : (1048576 : Int) < tot l0
  · have hz := szR_no hbig
    have HZ := Lib.hid hz
    clear hz
    go_enter Try.func7, Try.ntmps7
    go_wp2_with fail
    have hx := one_cell w (.slice a0 len0 cap0) 37
    have hb := new1 w (.cells #[.slice a0 len0 cap0] 37)
    have hlt : w.heap.size < (w.alloc (.cells #[.slice a0 len0 cap0] 37)).heap.size := by simp
    generalize w.alloc (.cells #[.slice a0 len0 cap0] 37) = W1 at hx hb hlt ⊢
    have HB1 : Hid (Below w.heap.size w W1) := Lib.hid hb
    have HS1 : Hid (Below w.heap.size w W1) := Lib.hid hb
    clear hb
    have bx_1 := hx
    have bxl_1 := hlt
    clear hx hlt
    refine (count_store (by omega) (H0.out.below HB1.out) HB1.out.size (by omega) (by omega)).mono ?_
    rintro e W2 ⟨rfl, hb⟩
    rw [HZ.out]
    have HB2 : Hid (Below w.heap.size w W2) := Lib.hid (HB1.out.trans (hb.mono HB1.out.size))
    have HS2 : Hid (Below W1.heap.size W1 W2) := Lib.hid hb
    clear hb
    have bx_2 := (HS2.out.cell (p := ⟨w.heap.size, 0, none⟩) bxl_1).trans bx_1
    clear bx_1
    have bxl_2 := Nat.lt_of_lt_of_le bxl_1 HS2.out.size
    clear bxl_1
    go_wp2_with fail
    go_ret
    exact ⟨rfl, HB2.out⟩
  obtain ⟨x, hx⟩ : ∃ x, raV l0 a1 a2 = x := ⟨_, rfl⟩
  obtain ⟨q, hq⟩ : ∃ q, raB l0 a1 a2 = q := ⟨_, rfl⟩
  have HX := Lib.hid hx
  have HQ := Lib.hid hq
  clear hx hq
  have hz := szR_yes (left := 1048576) (ll := l0) (by omega)
  have HZ := Lib.hid hz
  clear hz
  have htot := tot_eq l0
  have HR := Lib.hid (H0.out.tight (by omega))
  have tz : decide ((1048576 : Int) - (tot l0 : Int) < 0) = false := decide_eq_false (by omega)
  go_enter Try.func7, Try.ntmps7
  go_wp2_with fail
  have hx := one_cell w (.slice a0 len0 cap0) 37
  have hb := new1 w (.cells #[.slice a0 len0 cap0] 37)
  have hlt : w.heap.size < (w.alloc (.cells #[.slice a0 len0 cap0] 37)).heap.size := by simp
  generalize w.alloc (.cells #[.slice a0 len0 cap0] 37) = W1 at hx hb hlt ⊢
  have HB1 : Hid (Below w.heap.size w W1) := Lib.hid hb
  have HS1 : Hid (Below w.heap.size w W1) := Lib.hid hb
  clear hb
  have bx_1 := hx
  have bxl_1 := hlt
  clear hx hlt
  refine (count_store (by omega) (H0.out.below HB1.out) HB1.out.size (by omega) (by omega)).mono ?_
  rintro e W2 ⟨rfl, hb⟩
  rw [HZ.out]
  have HB2 : Hid (Below w.heap.size w W2) := Lib.hid (HB1.out.trans (hb.mono HB1.out.size))
  have HS2 : Hid (Below W1.heap.size W1 W2) := Lib.hid hb
  clear hb
  have bx_2 := (HS2.out.cell (p := ⟨w.heap.size, 0, none⟩) bxl_1).trans bx_1
  clear bx_1
  have bxl_2 := Nat.lt_of_lt_of_le bxl_1 HS2.out.size
  clear bxl_1
  go_wp2_with fail
  refine (copy_store (by omega) (by omega) (HR.out.below HB2.out) HB2.out.size).mono ?_
  rintro e W3 ⟨Ns1, rfl, hN, hv, hb⟩
  clear hN
  have HB3 : Hid (Below w.heap.size w W3) := Lib.hid (HB2.out.trans (hb.mono HB2.out.size))
  have HS3 : Hid (Below W2.heap.size W2 W3) := Lib.hid hb
  clear hb
  have bx_3 := (HS3.out.cell (p := ⟨w.heap.size, 0, none⟩) bxl_2).trans bx_2
  clear bx_2
  have bxl_3 := Nat.lt_of_lt_of_le bxl_2 HS3.out.size
  clear bxl_2
  have s1_3 := Lib.hid hv
  clear hv
  go_wp2_with fail
  refine (Go.Proofs.Ytmohpkkfbgjboaa.rd.spec_readat a1 a2 HX.out HQ.out (by omega) s1_3.out (Nat.le_refl _)).mono ?_
  rintro e W4 ⟨rfl, hb⟩
  have HB4 : Hid (Below w.heap.size w W4) := Lib.hid (HB3.out.trans (hb.mono HB3.out.size))
  have HS4 : Hid (Below W3.heap.size W3 W4) := Lib.hid hb
  clear hb
  have bx_4 := (HS4.out.cell (p := ⟨w.heap.size, 0, none⟩) bxl_3).trans bx_3
  clear bx_3
  have bxl_4 := Nat.lt_of_lt_of_le bxl_3 HS4.out.size
  clear bxl_3
  have s1_4 := Lib.hid ((s1_3.out.below HS4.out).more HS4.out.size)
  clear s1_3
  go_wp2_with fail
  have hx := boxed W4 x 25
  have hb := new1 W4 (.cells #[.int .i64 x.a, .int .i64 x.b, .int .i64 x.c, .int .i64 x.d, .int .i64 x.e] 25)
  have hlt : W4.heap.size < (W4.alloc (.cells #[.int .i64 x.a, .int .i64 x.b, .int .i64 x.c, .int .i64 x.d, .int .i64 x.e] 25)).heap.size := by simp
  generalize W4.alloc (.cells #[.int .i64 x.a, .int .i64 x.b, .int .i64 x.c, .int .i64 x.d, .int .i64 x.e] 25) = W5 at hx hb hlt ⊢
  have HB5 : Hid (Below w.heap.size w W5) := Lib.hid (HB4.out.trans (hb.mono HB4.out.size))
  have HS5 : Hid (Below W4.heap.size W4 W5) := Lib.hid hb
  clear hb
  have bx_5 := (HS5.out.cell (p := ⟨w.heap.size, 0, none⟩) bxl_4).trans bx_4
  clear bx_4
  have bxl_5 := Nat.lt_of_lt_of_le bxl_4 HS5.out.size
  clear bxl_4
  have s1_5 := Lib.hid ((s1_4.out.below HS5.out).more HS5.out.size)
  clear s1_4
  have vx_5 := Lib.hid hx
  have vxl_5 := hlt
  clear hx hlt
  refine (copy_store (by omega) (by omega) (HR.out.below HB5.out) HB5.out.size).mono ?_
  rintro e W6 ⟨Ns2, rfl, hN, hv, hb⟩
  clear hN
  have HB6 : Hid (Below w.heap.size w W6) := Lib.hid (HB5.out.trans (hb.mono HB5.out.size))
  have HS6 : Hid (Below W5.heap.size W5 W6) := Lib.hid hb
  clear hb
  have bx_6 := (HS6.out.cell (p := ⟨w.heap.size, 0, none⟩) bxl_5).trans bx_5
  clear bx_5
  have bxl_6 := Nat.lt_of_lt_of_le bxl_5 HS6.out.size
  clear bxl_5
  have vx_6 := Lib.hid (At.keep vx_5.out vxl_5 HS6.out)
  have vxl_6 := Nat.lt_of_lt_of_le vxl_5 HS6.out.size
  clear vxl_5 vx_5
  have s1_6 := Lib.hid ((s1_5.out.below HS6.out).more HS6.out.size)
  clear s1_5
  have s2_6 := Lib.hid hv
  clear hv
  go_wp2_with fail
  have hx := one_cell W6 (.slice (some ⟨Ns2, 0, none⟩) len0 len0) 42
  have hb := new1 W6 (.cells #[.slice (some ⟨Ns2, 0, none⟩) len0 len0] 42)
  have hlt : W6.heap.size < (W6.alloc (.cells #[.slice (some ⟨Ns2, 0, none⟩) len0 len0] 42)).heap.size := by simp
  generalize W6.alloc (.cells #[.slice (some ⟨Ns2, 0, none⟩) len0 len0] 42) = W7 at hx hb hlt ⊢
  have HB7 : Hid (Below w.heap.size w W7) := Lib.hid (HB6.out.trans (hb.mono HB6.out.size))
  have HS7 : Hid (Below W6.heap.size W6 W7) := Lib.hid hb
  clear hb
  have bx_7 := (HS7.out.cell (p := ⟨w.heap.size, 0, none⟩) bxl_6).trans bx_6
  clear bx_6
  have bxl_7 := Nat.lt_of_lt_of_le bxl_6 HS7.out.size
  clear bxl_6
  have vx_7 := Lib.hid (At.keep vx_6.out vxl_6 HS7.out)
  have vxl_7 := Nat.lt_of_lt_of_le vxl_6 HS7.out.size
  clear vxl_6 vx_6
  have s1_7 := Lib.hid ((s1_6.out.below HS7.out).more HS7.out.size)
  clear s1_6
  have s2_7 := Lib.hid ((s2_6.out.below HS7.out).more HS7.out.size)
  clear s2_6
  have by_7 := hx
  have byl_7 := hlt
  clear hx hlt
  refine (Go.Proofs.Ytmohpkkfbgjboaa.rd.impl_readat a1 a2 HX.out HQ.out (by omega) s2_7.out (Nat.le_refl _)).mono ?_
  rintro e W8 ⟨rfl, hb⟩
  have HB8 : Hid (Below w.heap.size w W8) := Lib.hid (HB7.out.trans (hb.mono HB7.out.size))
  have HS8 : Hid (Below W7.heap.size W7 W8) := Lib.hid hb
  clear hb
  have bx_8 := (HS8.out.cell (p := ⟨w.heap.size, 0, none⟩) bxl_7).trans bx_7
  clear bx_7
  have bxl_8 := Nat.lt_of_lt_of_le bxl_7 HS8.out.size
  clear bxl_7
  have by_8 := (HS8.out.cell (p := ⟨W6.heap.size, 0, none⟩) byl_7).trans by_7
  clear by_7
  have byl_8 := Nat.lt_of_lt_of_le byl_7 HS8.out.size
  clear byl_7
  have vx_8 := Lib.hid (At.keep vx_7.out vxl_7 HS8.out)
  have vxl_8 := Nat.lt_of_lt_of_le vxl_7 HS8.out.size
  clear vxl_7 vx_7
  have s1_8 := Lib.hid ((s1_7.out.below HS8.out).more HS8.out.size)
  clear s1_7
  have s2_8 := Lib.hid ((s2_7.out.below HS8.out).more HS8.out.size)
  clear s2_7
  obtain ⟨x0, x1, x2, x3, x4⟩ := atFlat vx_8.out
  go_wp2_with fail
  have hb := new1 W8 (.cells #[.int .i64 x.a, .int .i64 x.b, .int .i64 x.c, .int .i64 x.d, .int .i64 x.e] 25)
  generalize W8.alloc (.cells #[.int .i64 x.a, .int .i64 x.b, .int .i64 x.c, .int .i64 x.d, .int .i64 x.e] 25) = W9 at hb ⊢
  clear x0 x1 x2 x3 x4
  have HB9 : Hid (Below w.heap.size w W9) := Lib.hid (HB8.out.trans (hb.mono HB8.out.size))
  have HS9 : Hid (Below W8.heap.size W8 W9) := Lib.hid hb
  clear hb
  have bx_9 := (HS9.out.cell (p := ⟨w.heap.size, 0, none⟩) bxl_8).trans bx_8
  clear bx_8
  have bxl_9 := Nat.lt_of_lt_of_le bxl_8 HS9.out.size
  clear bxl_8
  have by_9 := (HS9.out.cell (p := ⟨W6.heap.size, 0, none⟩) byl_8).trans by_8
  clear by_8
  have byl_9 := Nat.lt_of_lt_of_le byl_8 HS9.out.size
  clear byl_8
  have vx_9 := Lib.hid (At.keep vx_8.out vxl_8 HS9.out)
  have vxl_9 := Nat.lt_of_lt_of_le vxl_8 HS9.out.size
  clear vxl_8 vx_8
  have s1_9 := Lib.hid ((s1_8.out.below HS9.out).more HS9.out.size)
  clear s1_8
  have s2_9 := Lib.hid ((s2_8.out.below HS9.out).more HS9.out.size)
  clear s2_8
  refine (Go.Proofs.Ytmohpkkfbgjboaa.find.same_version x _).mono ?_
  rintro e W10 ⟨rfl, hb⟩
  have HB10 : Hid (Below w.heap.size w W10) := Lib.hid (HB9.out.trans (hb.mono HB9.out.size))
  have HS10 : Hid (Below W9.heap.size W9 W10) := Lib.hid hb
  clear hb
  have bx_10 := (HS10.out.cell (p := ⟨w.heap.size, 0, none⟩) bxl_9).trans bx_9
  clear bx_9
  have bxl_10 := Nat.lt_of_lt_of_le bxl_9 HS10.out.size
  clear bxl_9
  have by_10 := (HS10.out.cell (p := ⟨W6.heap.size, 0, none⟩) byl_9).trans by_9
  clear by_9
  have byl_10 := Nat.lt_of_lt_of_le byl_9 HS10.out.size
  clear byl_9
  have vx_10 := Lib.hid (At.keep vx_9.out vxl_9 HS10.out)
  have vxl_10 := Nat.lt_of_lt_of_le vxl_9 HS10.out.size
  clear vxl_9 vx_9
  have s1_10 := Lib.hid ((s1_9.out.below HS10.out).more HS10.out.size)
  clear s1_9
  have s2_10 := Lib.hid ((s2_9.out.below HS10.out).more HS10.out.size)
  clear s2_9
  go_wp2_with fail
  go_region_held3 (fun w' => w'.cell? ⟨w.heap.size, 0, none⟩ = some (.slice a0 len0 cap0) ∧ w'.cell? ⟨W6.heap.size, 0, none⟩ = some (.slice (some ⟨Ns2, 0, none⟩) len0 len0)) (go_keep) (first | (go_at_call 21; refine (copy_store (w := W10.drew) (by omega) (by omega) (HR.out.below HB10.out.drew) HB10.out.size).mono ?_; rintro e Wd ⟨N3, rfl, hN, hv, hb⟩; replace hb := ((Below.refl W10.heap.size W10).drew).trans hb; have bxd := (hb.cell (p := ⟨w.heap.size, 0, none⟩) bxl_10).trans bx_10; have byd := (hb.cell (p := ⟨W6.heap.size, 0, none⟩) byl_10).trans by_10) | (go_at_call 23; refine (same_store (by omega) ((s2_10.out.below hb).more hb.size) hv (Nat.le_refl _)).mono ?_; rintro e We ⟨rfl, hb2⟩; have bxe := (hb2.cell (p := ⟨w.heap.size, 0, none⟩) (Nat.lt_of_lt_of_le bxl_10 hb.size)).trans bxd; have bye := (hb2.cell (p := ⟨W6.heap.size, 0, none⟩) (Nat.lt_of_lt_of_le byl_10 hb.size)).trans byd))
  have hbz := hb.trans (hb2.mono hb.size)
  clear bx_10 bxd bxe
  clear by_10 byd bye
  have HB11 : Hid (Below w.heap.size w We) := Lib.hid (HB10.out.trans (hbz.mono HB10.out.size))
  clear hb hb2 hbz hv hN
  go_wp2_with fail
  go_ret
  exact ⟨rfl, HB11.out⟩
/-! ### THE ROW's STEP -/
set_option maxRecDepth 100000 in
theorem lifted (os : Os) (started : os.Started) (H : Type) (enc : TypeId × Value → H) :
    ReturnsInHanded {} Try.checked os 7 .any (Rows.fnExactReadAtSpec.pre6 enc Try.prog Try.f7 Rows.fnExactReadAtRow.domain false) (Rows.fnExactReadAtSpec.post enc Try.prog Try.f7 false true false false) := by
  refine returnsInHanded_of_change (C := Try.checked) own started (by kernel_rfl) Try.func7
    (ChangeSpec.witness6 (enc := enc) (C := Try.checked) false ⟨#[], #[.agg #[.slice none 0 0], .int .i64 0, .int .i64 0], []⟩ 8 (by kernel_rfl) (by kernel_rfl) (by kernel_rfl) (by kernel_rfl)) ?_
  intro W base args ds gs before hval0 hW hcnd _
  have hval : ∀ (j : Nat) t v, Try.f7.params[j]? = some t → args[j]? = some v → Value.okWide Try.prog W .any base t v := hval0
  have hW' := hW
  obtain ⟨p, q, hA0, hV, rfl, hfz, hnd⟩ := hW
  have hA : DataW.TrodAll enc Try.prog W 0 (fun _ => true) true Try.f7.params.toList args.toList ds p := hA0
  rw [Try.params7] at hA hval
  obtain ⟨v0, vs0, d0, ds0, p0, q0, hargs, rfl, rfl, h0, r0⟩ := trodAll_cons hA
  obtain ⟨v1, vs1, d1, ds1, p1, q1, rfl, rfl, rfl, h1, r1⟩ := trodAll_cons r0
  obtain ⟨v2, vs2, d2, ds2, p2, q2, rfl, rfl, rfl, h2, r2⟩ := trodAll_cons r1
  obtain ⟨rfl, rfl, rfl⟩ := trodAll_nil r2
  obtain rfl : args = #[v0, v1, v2] := by cases args; simp_all
  obtain ⟨rfl, rfl⟩ := trodVars_none hV
  have k0 := h0
  have lt0 : ∀ x ∈ p0, x.block < W.heap.size := by obtain ⟨m, hm⟩ := k0; exact DataW.trod_lt m _ _ _ hm
  obtain ⟨a0, len0, cap0, l0, rfl, w0, m0⟩ := open_store (hval 0 37 v0 rfl rfl) h0
  obtain ⟨a1, rfl, rfl, rfl, w1⟩ := open_int Try.underlying3 (hval 1 3 v1 rfl rfl) h1
  obtain ⟨a2, rfl, rfl, rfl, w2⟩ := open_int Try.underlying3 (hval 2 3 v2 rfl rfl) h2
  clear hA0 hval0
  refine (walk a0 len0 cap0 l0 a1 a2 W w0 m0 w1 w2).mono fun e W' ⟨he, bel⟩ => ?_
  subst he
  exact ⟨_, rfl, _, _, _, [], _, [], hW', trodAll_mk1 (shut_bool Try.underlying4 _), (trodAll_cons_mk (Below.trod laidOut (by kernel_rfl) (of_decide_eq_true (by kernel_rfl)) k0 bel lt0) (trodAll_cons_mk (shut_int Try.underlying3 w1) (trodAll_cons_mk (shut_int Try.underlying3 w2) trodAll_mk0))), rfl, bel.frame _, fun h => by cases h⟩

theorem over : Rows.fnExactReadAtRow.holds Try.pinned (OpenSpec.ofChange Rows.fnExactReadAtSpec) :=
  OpenClaim.holds_of_wide 7 Try.f7 rfl rfl rfl rfl rfl rfl rfl ⟨rfl, rfl, rfl, rfl, rfl⟩ rfl rfl rfl rfl rfl (by kernel_rfl) Try.func7 (by kernel_rfl)
    (of_decide_eq_true (by kernel_rfl)) (by unfold Func.isWrapper; first | (rw [if_pos (by decide +kernel)]; kernel_rfl) | (rw [if_neg (by decide +kernel)]; exact ⟨rfl, rfl⟩))
    (fun os started H enc _ => lifted os started H enc)

/-- THE STATEMENT -/
theorem proved : Rows.FnExactReadAtSaid := over
#print axioms proved
end Go.Proofs.Ytmohpkkfbgjboaa.fnExactReadAt
