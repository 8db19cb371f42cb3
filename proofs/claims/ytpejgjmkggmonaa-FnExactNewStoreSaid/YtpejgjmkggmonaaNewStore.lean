/- NewStore of the program answers as its model: the law returns true and writes nothing that was there; two answers share no memory. No condition. -/
import Derived.Test.YtpejgjmkggmonaaOpenS
import Derived.Test.YtpejgjmkggmonaaNew
import Derived.Test.YtpejgjmkggmonaaMarkS
import Derived.WalkKit
import Derived.ProofKit
import Derived.OpenShut
import Derived.ShutString
import Derived.ChangeOld
import Derived.Below
import Derived.Carry
import Derived.Lib.Hide
import Derived.StillTailTactics
import Derived.Deep.RegionHeld3
import Derived.Deep.DeepHandedRow
namespace Go.Proofs.Ytpejgjmkggmonaa.fnExactNewStore
open Go.ChangeShapes Go.WideShapes Go.ChangeAt Go.RowKit
open Go.ChangeMaps (open_string shut_string)
open Go.Proofs.Ytpejgjmkggmonaa.vers Go.Proofs.Ytpejgjmkggmonaa.sl Go.Proofs.Ytpejgjmkggmonaa.opn Go.Proofs.Ytpejgjmkggmonaa.ch Go.Proofs.Ytpejgjmkggmonaa.st Go.Proofs.Ytpejgjmkggmonaa.opns Go.Proofs.Ytpejgjmkggmonaa.new
set_option linter.unusedVariables false
/-- blocks lo < k < hi alone have changed -/
structure Mid (lo hi : Nat) (w w' : World) : Prop where
  os : w'.os = w.os
  tape : w'.tape = w.tape
  output : w'.output = w.output
  size : w.heap.size ≤ w'.heap.size
  block : ∀ k, ¬ (lo < k ∧ k < hi) → k < w.heap.size → w'.heap[k]? = w.heap[k]?
theorem Mid.below {lo hi B : Nat} {w w' : World} (h : Mid lo hi w w') (hB : B ≤ lo) (hs : B ≤ w.heap.size) : Below B w w' := ⟨h.os, h.tape, h.output, h.size, fun k hk => h.block k (by omega) (by omega)⟩
theorem Mid.block_cell {lo hi : Nat} {w w' : World} (h : Mid lo hi w w') {p : Addr} (hp : ¬ (lo < p.block ∧ p.block < hi)) (hl : p.block < w.heap.size) : w'.cell? p = w.cell? p := World.cell?_of_block (w := w) (h.block p.block hp hl)
set_option maxHeartbeats 3200000 in
theorem walk (w : World) : Calls Try.prog 3 #[] w fun e w' => e = .returned (.bool true) ∧ Below w.heap.size w w' := by
  go_enter Try.func3, Try.ntmps3
  go_wp2_with fail
  refine (Go.Proofs.Ytpejgjmkggmonaa.new.spec_new w).mono ?_
  rintro e W1 ⟨Aw, cw, rfl, hrs, hb⟩
  have HB1 : Hid (Below w.heap.size w W1) := Lib.hid hb
  have HS1 : Hid (Below w.heap.size w W1) := Lib.hid hb
  clear hb
  have sw_1 := Lib.hid hrs
  clear hrs
  go_wp2_with fail
  have hx := one_cell W1 (.slice Aw 6 cw) 24
  have hb := new1 W1 (.cells #[.slice Aw 6 cw] 24)
  have hlt : W1.heap.size < (W1.alloc (.cells #[.slice Aw 6 cw] 24)).heap.size := by simp
  generalize W1.alloc (.cells #[.slice Aw 6 cw] 24) = W2 at hx hb hlt ⊢
  have HB2 : Hid (Below w.heap.size w W2) := Lib.hid (HB1.out.trans (hb.mono HB1.out.size))
  have HS2 : Hid (Below W1.heap.size W1 W2) := Lib.hid hb
  clear hb
  have sw_2 := Lib.hid ((sw_1.out.below HS2.out).more HS2.out.size)
  clear sw_1
  have bx_2 := hx
  have bxl_2 := hlt
  clear hx hlt
  have SW0 := sw_2
  refine (Go.Proofs.Ytpejgjmkggmonaa.new.impl_new _).mono ?_
  rintro e W3 ⟨Nx, rfl, hNx, hrr, hb⟩
  have hbxP := bxl_2
  have HB3 : Hid (Below w.heap.size w W3) := Lib.hid (HB2.out.trans (hb.mono HB2.out.size))
  have HS3 : Hid (Below W2.heap.size W2 W3) := Lib.hid hb
  clear hb
  have bx_3 := (HS3.out.cell (p := ⟨W1.heap.size, 0, none⟩) bxl_2).trans bx_2
  clear bx_2
  have bxl_3 := Nat.lt_of_lt_of_le bxl_2 HS3.out.size
  clear bxl_2
  have sw_3 := Lib.hid ((sw_2.out.below HS3.out).more HS3.out.size)
  clear sw_2
  have RX_3 : Hid (Go.Proofs.Ytpejgjmkggmonaa.marks.MS W3 Nx 6 ns 1 0) := Lib.hid (Go.Proofs.Ytpejgjmkggmonaa.marks.MS.of_rr hrr ns_len 1)
  have xx_3 := Lib.hid (hrr.rs ns_len (by rw [ns_cnt]; omega))
  clear hrr
  have hbxN : w.heap.size < Nx := by have := HB1.out.size; omega
  go_wp2_with fail
  have hx := one_cell W3 (.slice (some ⟨Nx, 0, none⟩) 6 6) 24
  have hb := new1 W3 (.cells #[.slice (some ⟨Nx, 0, none⟩) 6 6] 24)
  have hlt : W3.heap.size < (W3.alloc (.cells #[.slice (some ⟨Nx, 0, none⟩) 6 6] 24)).heap.size := by simp
  generalize W3.alloc (.cells #[.slice (some ⟨Nx, 0, none⟩) 6 6] 24) = W4 at hx hb hlt ⊢
  have HB4 : Hid (Below w.heap.size w W4) := Lib.hid (HB3.out.trans (hb.mono HB3.out.size))
  have HS4 : Hid (Below W3.heap.size W3 W4) := Lib.hid hb
  clear hb
  have bx_4 := (HS4.out.cell (p := ⟨W1.heap.size, 0, none⟩) bxl_3).trans bx_3
  clear bx_3
  have bxl_4 := Nat.lt_of_lt_of_le bxl_3 HS4.out.size
  clear bxl_3
  have sw_4 := Lib.hid ((sw_3.out.below HS4.out).more HS4.out.size)
  clear sw_3
  have xx_4 := Lib.hid ((xx_3.out.below HS4.out).more HS4.out.size)
  clear xx_3
  have by_4 := hx
  have byl_4 := hlt
  clear hx hlt
  refine (same_store (by omega) xx_4.out sw_4.out (Nat.le_refl _)).mono ?_
  rintro e W5 ⟨rfl, hb⟩
  have HB5 : Hid (Below w.heap.size w W5) := Lib.hid (HB4.out.trans (hb.mono HB4.out.size))
  have HS5 : Hid (Below W4.heap.size W4 W5) := Lib.hid hb
  clear hb
  have bx_5 := (HS5.out.cell (p := ⟨W1.heap.size, 0, none⟩) bxl_4).trans bx_4
  clear bx_4
  have bxl_5 := Nat.lt_of_lt_of_le bxl_4 HS5.out.size
  clear bxl_4
  have by_5 := (HS5.out.cell (p := ⟨W3.heap.size, 0, none⟩) byl_4).trans by_4
  clear by_4
  have byl_5 := Nat.lt_of_lt_of_le byl_4 HS5.out.size
  clear byl_4
  have sw_5 := Lib.hid ((sw_4.out.below HS5.out).more HS5.out.size)
  clear sw_4
  have xx_5 := Lib.hid ((xx_4.out.below HS5.out).more HS5.out.size)
  clear xx_4
  have hbx : Below W3.heap.size W3 W5 := (HS4.out).trans (HS5.out.mono (HS4.out.size))
  go_wp2_with fail
  refine (Go.Proofs.Ytpejgjmkggmonaa.marks.mark_store (k0 := 1) (ll := ns) (by omega) (by omega) ns_len (by omega) (by rw [ns_cnt]; omega) RX_3.out hbx).mono ?_
  rintro e W6 ⟨rfl, hms, hm1, hm2, hm3, hm4, hm5⟩
  have hmid : Mid Nx W3.heap.size W5 W6 := ⟨hm2, hm3, hm4, hm1, hm5⟩
  clear hm1 hm2 hm3 hm4 hm5
  rw [ns_cnt]
  have hNk : Nx ≤ W5.heap.size := by have := RX_3.out.lt; have := hbx.size; omega
  have HB6 : Hid (Below w.heap.size w W6) := Lib.hid (HB5.out.trans (hmid.below (by omega) HB5.out.size))
  have MM_6 := Lib.hid hms
  have sz0 := SW0.out.below (HS3.out.trans (hbx.mono HS3.out.size))
  have sw_6 := Lib.hid ((sz0.below (hmid.below hNx (Nat.le_trans hNx hNk))).more (show W2.heap.size ≤ W6.heap.size from Nat.le_trans hNx (Nat.le_trans hNk hmid.size)))
  have bx_6 := (hmid.block_cell (p := ⟨W1.heap.size, 0, none⟩) (fun h => by have := h.1; simp at this; omega) bxl_5).trans bx_5
  have bxl_6 := Nat.lt_of_lt_of_le bxl_5 hmid.size
  have by_6 := (hmid.block_cell (p := ⟨W3.heap.size, 0, none⟩) (fun h => by have := h.2; simp at this) byl_5).trans by_5
  have byl_6 := Nat.lt_of_lt_of_le byl_5 hmid.size
  clear hms hmid hbx sz0 bx_5 bxl_5 by_5 byl_5 sw_5 xx_5
  go_wp2_with fail
  refine (Go.Proofs.Ytpejgjmkggmonaa.marks.held_store (k0 := 1) (ll := ns) (by omega) (by omega) ns_len (by omega) (by rw [ns_cnt]; omega) MM_6.out).mono ?_
  rintro e W7 ⟨rfl, hb⟩
  rw [ns_cnt]
  have HB7 : Hid (Below w.heap.size w W7) := Lib.hid (HB6.out.trans (hb.mono HB6.out.size))
  have HS7 : Hid (Below W6.heap.size W6 W7) := Lib.hid hb
  clear hb
  have bx_7 := (HS7.out.cell (p := ⟨W1.heap.size, 0, none⟩) bxl_6).trans bx_6
  clear bx_6
  have bxl_7 := Nat.lt_of_lt_of_le bxl_6 HS7.out.size
  clear bxl_6
  have by_7 := (HS7.out.cell (p := ⟨W3.heap.size, 0, none⟩) byl_6).trans by_6
  clear by_6
  have byl_7 := Nat.lt_of_lt_of_le byl_6 HS7.out.size
  clear byl_6
  have sw_7 := Lib.hid ((sw_6.out.below HS7.out).more HS7.out.size)
  clear sw_6
  have MM_7 := Lib.hid (MM_6.out.below HS7.out)
  clear MM_6
  go_wp2_with fail
  refine (Go.Proofs.Ytpejgjmkggmonaa.new.impl_new _).mono ?_
  rintro e W8 ⟨Ny, rfl, hNy, hrr, hb⟩
  clear hNy
  have HB8 : Hid (Below w.heap.size w W8) := Lib.hid (HB7.out.trans (hb.mono HB7.out.size))
  have HS8 : Hid (Below W7.heap.size W7 W8) := Lib.hid hb
  clear hb
  have bx_8 := (HS8.out.cell (p := ⟨W1.heap.size, 0, none⟩) bxl_7).trans bx_7
  clear bx_7
  have bxl_8 := Nat.lt_of_lt_of_le bxl_7 HS8.out.size
  clear bxl_7
  have by_8 := (HS8.out.cell (p := ⟨W3.heap.size, 0, none⟩) byl_7).trans by_7
  clear by_7
  have byl_8 := Nat.lt_of_lt_of_le byl_7 HS8.out.size
  clear byl_7
  have sw_8 := Lib.hid ((sw_7.out.below HS8.out).more HS8.out.size)
  clear sw_7
  have MM_8 := Lib.hid (MM_7.out.below HS8.out)
  clear MM_7
  have yy_8 := Lib.hid (hrr.rs ns_len (by rw [ns_cnt]; omega))
  clear hrr
  go_wp2_with fail
  have hx := one_cell W8 (.slice (some ⟨Ny, 0, none⟩) 6 6) 24
  have hb := new1 W8 (.cells #[.slice (some ⟨Ny, 0, none⟩) 6 6] 24)
  have hlt : W8.heap.size < (W8.alloc (.cells #[.slice (some ⟨Ny, 0, none⟩) 6 6] 24)).heap.size := by simp
  generalize W8.alloc (.cells #[.slice (some ⟨Ny, 0, none⟩) 6 6] 24) = W9 at hx hb hlt ⊢
  have HB9 : Hid (Below w.heap.size w W9) := Lib.hid (HB8.out.trans (hb.mono HB8.out.size))
  have HS9 : Hid (Below W8.heap.size W8 W9) := Lib.hid hb
  clear hb
  have bx_9 := (HS9.out.cell (p := ⟨W1.heap.size, 0, none⟩) bxl_8).trans bx_8
  clear bx_8
  have bxl_9 := Nat.lt_of_lt_of_le bxl_8 HS9.out.size
  clear bxl_8
  have by_9 := (HS9.out.cell (p := ⟨W3.heap.size, 0, none⟩) byl_8).trans by_8
  clear by_8
  have byl_9 := Nat.lt_of_lt_of_le byl_8 HS9.out.size
  clear byl_8
  have sw_9 := Lib.hid ((sw_8.out.below HS9.out).more HS9.out.size)
  clear sw_8
  have yy_9 := Lib.hid ((yy_8.out.below HS9.out).more HS9.out.size)
  clear yy_8
  have bz_9 := hx
  have bzl_9 := hlt
  clear hx hlt
  have MM_9 := Lib.hid (MM_8.out.below HS9.out)
  clear MM_8
  refine (same_store (by omega) yy_9.out sw_9.out (Nat.le_refl _)).mono ?_
  rintro e W10 ⟨rfl, hb⟩
  have HB10 : Hid (Below w.heap.size w W10) := Lib.hid (HB9.out.trans (hb.mono HB9.out.size))
  have HS10 : Hid (Below W9.heap.size W9 W10) := Lib.hid hb
  clear hb
  have bx_10 := (HS10.out.cell (p := ⟨W1.heap.size, 0, none⟩) bxl_9).trans bx_9
  clear bx_9
  have bxl_10 := Nat.lt_of_lt_of_le bxl_9 HS10.out.size
  clear bxl_9
  have by_10 := (HS10.out.cell (p := ⟨W3.heap.size, 0, none⟩) byl_9).trans by_9
  clear by_9
  have byl_10 := Nat.lt_of_lt_of_le byl_9 HS10.out.size
  clear byl_9
  have bz_10 := (HS10.out.cell (p := ⟨W8.heap.size, 0, none⟩) bzl_9).trans bz_9
  clear bz_9
  have bzl_10 := Nat.lt_of_lt_of_le bzl_9 HS10.out.size
  clear bzl_9
  have sw_10 := Lib.hid ((sw_9.out.below HS10.out).more HS10.out.size)
  clear sw_9
  have yy_10 := Lib.hid ((yy_9.out.below HS10.out).more HS10.out.size)
  clear yy_9
  have MM_10 := Lib.hid (MM_9.out.below HS10.out)
  clear MM_9
  go_wp2_with fail
  refine (Go.Proofs.Ytpejgjmkggmonaa.marks.held_store (k0 := 1) (ll := ns) (by omega) (by omega) ns_len (by omega) (by rw [ns_cnt]; omega) MM_10.out).mono ?_
  rintro e W11 ⟨rfl, hb⟩
  rw [ns_cnt]
  have HB11 : Hid (Below w.heap.size w W11) := Lib.hid (HB10.out.trans (hb.mono HB10.out.size))
  have HS11 : Hid (Below W10.heap.size W10 W11) := Lib.hid hb
  clear hb
  have bx_11 := (HS11.out.cell (p := ⟨W1.heap.size, 0, none⟩) bxl_10).trans bx_10
  clear bx_10
  have bxl_11 := Nat.lt_of_lt_of_le bxl_10 HS11.out.size
  clear bxl_10
  have by_11 := (HS11.out.cell (p := ⟨W3.heap.size, 0, none⟩) byl_10).trans by_10
  clear by_10
  have byl_11 := Nat.lt_of_lt_of_le byl_10 HS11.out.size
  clear byl_10
  have bz_11 := (HS11.out.cell (p := ⟨W8.heap.size, 0, none⟩) bzl_10).trans bz_10
  clear bz_10
  have bzl_11 := Nat.lt_of_lt_of_le bzl_10 HS11.out.size
  clear bzl_10
  have sw_11 := Lib.hid ((sw_10.out.below HS11.out).more HS11.out.size)
  clear sw_10
  have yy_11 := Lib.hid ((yy_10.out.below HS11.out).more HS11.out.size)
  clear yy_10
  go_wp2_with fail
  go_ret
  exact ⟨rfl, HB11.out⟩
/-! ### THE ROW's STEP -/
set_option maxRecDepth 100000 in
theorem lifted (os : Os) (started : os.Started) (H : Type) (enc : TypeId × Value → H) :
    ReturnsInHanded {} Try.checked os 3 .any (Rows.fnExactNewStoreSpec.pre6 enc Try.prog Try.f3 Rows.fnExactNewStoreRow.domain false) (Rows.fnExactNewStoreSpec.post enc Try.prog Try.f3 false true false false) := by
  refine returnsInHanded_of_change (C := Try.checked) own started (by kernel_rfl) Try.func3
    (ChangeSpec.witness6 (enc := enc) (C := Try.checked) false ⟨#[], #[], []⟩ 8 (by kernel_rfl) (by kernel_rfl) (by kernel_rfl) (by kernel_rfl)) ?_
  intro W base args ds gs before hval0 hW hcnd _
  have hval : ∀ (j : Nat) t v, Try.f3.params[j]? = some t → args[j]? = some v → Value.okWide Try.prog W .any base t v := hval0
  have hW' := hW
  obtain ⟨p, q, hA0, hV, rfl, hfz, hnd⟩ := hW
  have hA : DataW.TrodAll enc Try.prog W 0 (fun _ => true) true Try.f3.params.toList args.toList ds p := hA0
  rw [Try.params3] at hA hval
  obtain ⟨hargs, rfl, rfl⟩ := trodAll_nil hA
  obtain rfl : args = #[] := by cases args; simp_all
  obtain ⟨rfl, rfl⟩ := trodVars_none hV
  clear hA0 hval0
  refine (walk  W ).mono fun e W' ⟨he, bel⟩ => ?_
  subst he
  exact ⟨_, rfl, _, _, _, [], _, [], hW', trodAll_mk1 (shut_bool Try.underlying4 _), trodAll_mk0, rfl, bel.frame _, fun h => by cases h⟩

theorem over : Rows.fnExactNewStoreRow.holds Try.pinned (OpenSpec.ofChange Rows.fnExactNewStoreSpec) :=
  OpenClaim.holds_of_wide 3 Try.f3 rfl rfl rfl rfl rfl rfl rfl ⟨rfl, rfl, rfl, rfl, rfl⟩ rfl rfl rfl rfl rfl (by kernel_rfl) Try.func3 (by kernel_rfl)
    (of_decide_eq_true (by kernel_rfl)) (by unfold Func.isWrapper; first | (rw [if_pos (by decide +kernel)]; kernel_rfl) | (rw [if_neg (by decide +kernel)]; exact ⟨rfl, rfl⟩))
    (fun os started H enc _ => lifted os started H enc)

/-- THE STATEMENT -/
theorem proved : Rows.FnExactNewStoreSaid := over
#print axioms proved
end Go.Proofs.Ytpejgjmkggmonaa.fnExactNewStore
