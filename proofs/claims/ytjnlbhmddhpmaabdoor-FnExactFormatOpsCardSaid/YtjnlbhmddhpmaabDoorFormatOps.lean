/- FormatOps of the program answers as its model at every list of operations: the law returns true and writes nothing that was there; its three listed tables are tied to the text of the program. No other condition. -/
import Derived.Test.YtjnlbhmddhpmaabDoorFos
import Derived.Test.YtjnlbhmddhpmaabDoorOwo
import Derived.Test.YtjnlbhmddhpmaabDoorCards
import Derived.Test.YtjnlbhmddhpmaabDoorTie
import Derived.Test.YtjnlbhmddhpmaabDoorTabs
import Derived.WalkKit
import Derived.ProofKit
import Derived.OpenShut
import Derived.ShutString
import Derived.ChangeOld
import Derived.Below
import Derived.Carry
import Derived.Lib.Hide
import Derived.StillTailTactics
import Derived.Deep.RegionHeld3
import Derived.Deep.DeepHandedRow
namespace Go.Proofs.YtjnlbhmddhpmaabDoor.fnExactFormatOps
open Go.ChangeShapes Go.WideShapes Go.ChangeAt Go.RowKit
open Go.ChangeMaps (open_string shut_string)
open Go.Proofs.YtjnlbhmddhpmaabDoor.el6
open Go.Proofs.YtjnlbhmddhpmaabDoor.fr (FR)
open Go.Proofs.YtjnlbhmddhpmaabDoor.vers (new2 new3)
set_option linter.unusedVariables false
abbrev Facts (w : World) : Prop := Lib.TabIs Tryd.prog w "internal/strconv.uint64pow10" .u64 Lib.pow10Tab
noncomputable abbrev laidWorld := Go.Proofs.YtjnlbhmddhpmaabDoor.tabs.tabWorld
theorem own : ownKnob Tryd.prog.godebug = none := by kernel_rfl
theorem laidOut : laidOutB Tryd.prog = true := by kernel_rfl
set_option maxHeartbeats 1600000 in
theorem walk (A0 : Option Addr) (n0 c0 : Nat) (L0 : List E6) (w : World) (h0 : Go.Proofs.YtjnlbhmddhpmaabDoor.el6.Vs w w.heap.size A0 n0 L0) (m0 : n0 ≤ maxLen) (hF : Facts w) :
    Calls Tryd.prog 3 #[.slice A0 n0 c0] w fun e w' => e = .returned (.bool true) ∧ Below w.heap.size w w' := by
  have HF := Lib.hid hF
  clear hF
  unfold maxLen at m0
  have H0 := Lib.hid h0
  have hlen0 := h0.1
  clear h0
  by_cases hbig0 : (1048576 : Int) < (n0 : Int)
  · have hz := Go.Proofs.YtjnlbhmddhpmaabDoor.owo.szK_no (left := (1048576 : Int)) (n := n0) (by omega)
    have HZ0 := Lib.hid hz
    clear hz
    go_enter Tryd.func3, Tryd.ntmps3
    go_wp2_with fail
    refine (Go.Proofs.YtjnlbhmddhpmaabDoor.owo.count_k A0 n0 c0 _ _ (by omega) (by omega) (by omega)).mono ?_
    rintro e W1 ⟨rfl, hb⟩
    rw [HZ0.out]
    have HB1 : Hid (Below w.heap.size w W1) := Lib.hid hb
    have HS1 : Hid (Below w.heap.size w W1) := Lib.hid hb
    have HF1 : Hid (FR 0 0 w W1) := Lib.hid (FR.of_below hb)
    have hs1 : w.heap.size ≤ W1.heap.size := hb.size
    clear hb
    go_wp2_with fail
    go_ret
    exact ⟨rfl, HB1.out⟩
  have hz := Go.Proofs.YtjnlbhmddhpmaabDoor.owo.szK_yes (left := (1048576 : Int)) (n := n0) (by omega)
  have HZ0 := Lib.hid hz
  clear hz
  obtain ⟨lf0, hlf⟩ : ∃ lf : Int, lf = (1048576 : Int) - (n0 : Int) := ⟨_, rfl⟩
  have hz := HZ0.out
  clear HZ0
  rw [← hlf] at hz
  have HZ0 := Lib.hid hz
  have tz0 : decide (lf0 < 0) = false := decide_eq_false (by omega)
  have lf00 : 0 ≤ lf0 := by omega
  have lf10 : lf0 ≤ 1048576 := by omega
  clear hlf hz
  obtain ⟨q0z, hq0⟩ : ∃ q, Go.Proofs.YtjnlbhmddhpmaabDoor.fos.foS L0 = q := ⟨_, rfl⟩
  have HQ0 := Lib.hid hq0
  clear hq0
  go_enter Tryd.func3, Tryd.ntmps3
  go_wp2_with fail
  refine (Go.Proofs.YtjnlbhmddhpmaabDoor.owo.count_k A0 n0 c0 _ _ (by omega) (by omega) (by omega)).mono ?_
  rintro e W1 ⟨rfl, hb⟩
  rw [HZ0.out]
  have HB1 : Hid (Below w.heap.size w W1) := Lib.hid hb
  have HS1 : Hid (Below w.heap.size w W1) := Lib.hid hb
  have HF1 : Hid (FR 0 0 w W1) := Lib.hid (FR.of_below hb)
  have hs1 : w.heap.size ≤ W1.heap.size := hb.size
  clear hb
  go_wp2_with fail
  refine (Go.Proofs.YtjnlbhmddhpmaabDoor.owo.own_k (by omega) (H0.out.below HB1.out) (HB1.out).size).mono ?_
  rintro e W2 ⟨Ns1, rfl, hv, hb⟩
  have hvp := hv.vs (Nat.le_refl _)
  have HB2 : Hid (Below w.heap.size w W2) := Lib.hid (HB1.out.trans (hb.mono HB1.out.size))
  have HS2 : Hid (Below W1.heap.size W1 W2) := Lib.hid hb
  have HF2 : Hid (FR 0 0 W1 W2) := Lib.hid (FR.of_below hb)
  have hs2 : W1.heap.size ≤ W2.heap.size := hb.size
  clear hb
  have s1_2 := Lib.hid hv
  clear hv
  have s1p_2 := Lib.hid hvp
  clear hvp
  go_wp2_with fail
  refine (Go.Proofs.YtjnlbhmddhpmaabDoor.fos.spec_fos (by omega) s1p_2.out (Nat.le_refl _)).mono ?_
  rintro e W3 ⟨he, hb⟩
  rw [HQ0.out] at he
  subst he
  have HB3 : Hid (Below w.heap.size w W3) := Lib.hid (HB2.out.trans (hb.mono HB2.out.size))
  have HS3 : Hid (Below W2.heap.size W2 W3) := Lib.hid hb
  have HF3 : Hid (FR 0 0 W2 W3) := Lib.hid (FR.of_below hb)
  have hs3 : W2.heap.size ≤ W3.heap.size := hb.size
  clear hb
  have s1_3 := Lib.hid (s1_2.out.fr HF3.out (by omega) (by omega))
  clear s1_2
  have s1p_3 := Lib.hid ((s1p_2.out.below HS3.out).more HS3.out.size)
  clear s1p_2
  go_wp2_with fail
  refine (Go.Proofs.YtjnlbhmddhpmaabDoor.owo.own_k (by omega) (H0.out.below HB3.out) (HB3.out).size).mono ?_
  rintro e W4 ⟨Ns2, rfl, hv, hb⟩
  have hvp := hv.vs (Nat.le_refl _)
  have HB4 : Hid (Below w.heap.size w W4) := Lib.hid (HB3.out.trans (hb.mono HB3.out.size))
  have HS4 : Hid (Below W3.heap.size W3 W4) := Lib.hid hb
  have HF4 : Hid (FR 0 0 W3 W4) := Lib.hid (FR.of_below hb)
  have hs4 : W3.heap.size ≤ W4.heap.size := hb.size
  clear hb
  have s1_4 := Lib.hid (s1_3.out.fr HF4.out (by omega) (by omega))
  clear s1_3
  have s1p_4 := Lib.hid ((s1p_3.out.below HS4.out).more HS4.out.size)
  clear s1p_3
  have s2_4 := Lib.hid hv
  clear hv
  have s2p_4 := Lib.hid hvp
  clear hvp
  go_wp2_with fail
  refine (Go.Proofs.YtjnlbhmddhpmaabDoor.fos.impl_fos (by omega) s2p_4.out (Nat.le_refl _) (Go.Proofs.YtjnlbhmddhpmaabDoor.tabs.powTab_below HF.out HB4.out)).mono ?_
  rintro e W5 ⟨he, hb⟩
  rw [HQ0.out] at he
  subst he
  have HB5 : Hid (Below w.heap.size w W5) := Lib.hid (HB4.out.trans (hb.mono HB4.out.size))
  have HS5 : Hid (Below W4.heap.size W4 W5) := Lib.hid hb
  have HF5 : Hid (FR 0 0 W4 W5) := Lib.hid (FR.of_below hb)
  have hs5 : W4.heap.size ≤ W5.heap.size := hb.size
  clear hb
  have s1_5 := Lib.hid (s1_4.out.fr HF5.out (by omega) (by omega))
  clear s1_4
  have s1p_5 := Lib.hid ((s1p_4.out.below HS5.out).more HS5.out.size)
  clear s1p_4
  have s2_5 := Lib.hid (s2_4.out.fr HF5.out (by omega) (by omega))
  clear s2_4
  have s2p_5 := Lib.hid ((s2p_4.out.below HS5.out).more HS5.out.size)
  clear s2p_4
  go_wp2_with fail
  refine (Go.Proofs.YtjnlbhmddhpmaabDoor.owo.own_k (by omega) (H0.out.below HB5.out) (HB5.out).size).mono ?_
  rintro e W6 ⟨Ns3, rfl, hv, hb⟩
  have hvp := hv.vs (Nat.le_refl _)
  have HB6 : Hid (Below w.heap.size w W6) := Lib.hid (HB5.out.trans (hb.mono HB5.out.size))
  have HS6 : Hid (Below W5.heap.size W5 W6) := Lib.hid hb
  have HF6 : Hid (FR 0 0 W5 W6) := Lib.hid (FR.of_below hb)
  have hs6 : W5.heap.size ≤ W6.heap.size := hb.size
  clear hb
  have s1_6 := Lib.hid (s1_5.out.fr HF6.out (by omega) (by omega))
  clear s1_5
  have s1p_6 := Lib.hid ((s1p_5.out.below HS6.out).more HS6.out.size)
  clear s1p_5
  have s2_6 := Lib.hid (s2_5.out.fr HF6.out (by omega) (by omega))
  clear s2_5
  have s2p_6 := Lib.hid ((s2p_5.out.below HS6.out).more HS6.out.size)
  clear s2p_5
  have s3_6 := Lib.hid hv
  clear hv
  have s3p_6 := Lib.hid hvp
  clear hvp
  go_wp2_with fail
  refine (Go.Proofs.YtjnlbhmddhpmaabDoor.owo.same_k (by omega) (s2_6.out.vs (by omega)) (s3_6.out.vs (by omega))).mono ?_
  rintro e W7 ⟨rfl, hb⟩
  have HB7 : Hid (Below w.heap.size w W7) := Lib.hid (HB6.out.trans (hb.mono HB6.out.size))
  have HS7 : Hid (Below W6.heap.size W6 W7) := Lib.hid hb
  have HF7 : Hid (FR 0 0 W6 W7) := Lib.hid (FR.of_below hb)
  have hs7 : W6.heap.size ≤ W7.heap.size := hb.size
  clear hb
  have s1_7 := Lib.hid (s1_6.out.fr HF7.out (by omega) (by omega))
  clear s1_6
  have s1p_7 := Lib.hid ((s1p_6.out.below HS7.out).more HS7.out.size)
  clear s1p_6
  have s2_7 := Lib.hid (s2_6.out.fr HF7.out (by omega) (by omega))
  clear s2_6
  have s2p_7 := Lib.hid ((s2p_6.out.below HS7.out).more HS7.out.size)
  clear s2p_6
  have s3_7 := Lib.hid (s3_6.out.fr HF7.out (by omega) (by omega))
  clear s3_6
  have s3p_7 := Lib.hid ((s3p_6.out.below HS7.out).more HS7.out.size)
  clear s3p_6
  go_wp2_with fail
  go_ret
  exact ⟨rfl, HB7.out⟩
def readArgs (H : Type) : List (DataW H) := [.nil]
theorem facts {W : World} (h : laidMetH Tryd.prog Rows.fnExactFormatOpsRow.laid W) : Facts W := Go.Proofs.YtjnlbhmddhpmaabDoor.tabs.powTab (rest := []) h
/-! ### THE ROW -/
set_option maxRecDepth 100000 in
theorem contract (H : Type) (enc : TypeId × Value → H) (W : World) (base : Nat) (args : Array Value) (ds gs : List (DataW H)) (before : List MemPlace)
    (hval0 : ∀ (j : Nat) t v, Tryd.f3.params[j]? = some t → args[j]? = some v → Value.okWide Tryd.prog W .any base t v)
    (hW : DataW.Whole enc Tryd.prog Tryd.f3.params.toList Rows.fnExactFormatOpsSpec.vars false W args.toList ds gs before) (hL : laidMetH Tryd.prog Rows.fnExactFormatOpsRow.laid W) :
    Calls Tryd.prog 3 args W fun e W' => ∃ v, e = .returned v ∧ Rows.fnExactFormatOpsSpec.post enc Tryd.prog Tryd.f3 false true false false W args v W' := by
  have hval := hval0
  have hW' := hW
  obtain ⟨pp, qq, hA0, hV, rfl, hfz, hnd⟩ := hW
  have hA : DataW.TrodAll enc Tryd.prog W 0 (fun _ => true) true Tryd.f3.params.toList args.toList ds pp := hA0
  rw [Tryd.params3] at hA hval
  obtain ⟨v0, vs0, dd0, ds0, pp0, qq0, hargs, rfl, rfl, h0, r0⟩ := trodAll_cons hA
  obtain ⟨rfl, rfl, rfl⟩ := trodAll_nil r0
  obtain rfl : args = #[v0] := by cases args; simp_all
  obtain ⟨rfl, rfl⟩ := trodVars_none hV
  have k0 := h0
  have lt0 : ∀ x ∈ pp0, x.block < W.heap.size := by obtain ⟨m, hm⟩ := k0; exact DataW.trod_lt m _ _ _ hm
  obtain ⟨A0, n0, c0, rfl⟩ := okWide_slice Tryd.underlying22 (hval 0 22 v0 rfl rfl)
  obtain ⟨L0, w0, m0⟩ := Go.Proofs.YtjnlbhmddhpmaabDoor.rOp.open_slice1 h0
  clear hA0 hval0
  refine (walk A0 n0 c0 L0 W w0 m0 (facts hL)).mono fun e W' ⟨he, bel⟩ => ?_
  subst he
  exact ⟨_, rfl, _, _, _, [], _, [], hW', trodAll_mk1 (shut_bool Tryd.underlying4 _), (trodAll_cons_mk (Below.trod laidOut (by kernel_rfl) (of_decide_eq_true (by kernel_rfl)) k0 bel lt0) trodAll_mk0), rfl, bel.frame _, fun h => by cases h⟩

set_option maxRecDepth 100000 in
theorem laid_met (os : Os) : laidMetH Tryd.prog Rows.fnExactFormatOpsRow.laid ((laidWorld os).forCall (fun _ _ => 0) ⟨#[], #[.slice none 0 0], []⟩).memory :=
  laidMet_of_run' 8 (by kernel_rfl) (by kernel_rfl)
set_option maxRecDepth 100000 in
theorem reads (os : Os) {H : Type} (enc : TypeId × Value → H) : ∃ gs places, DataW.whole enc Tryd.prog ((laidWorld os).forCall (fun _ _ => 0) ⟨#[], #[.slice none 0 0], []⟩).memory Tryd.f3.params.toList Rows.fnExactFormatOpsSpec.vars false (#[.slice none 0 0] : Array Value).toList 8 = some (readArgs H, gs, places) := by
  have h : (DataW.whole enc Tryd.prog ((laidWorld os).forCall (fun _ _ => 0) ⟨#[], #[.slice none 0 0], []⟩).memory Tryd.f3.params.toList Rows.fnExactFormatOpsSpec.vars false (#[.slice none 0 0] : Array Value).toList 8).map (fun x => x.1) = some (readArgs H) := by kernel_rfl
  rcases hw : DataW.whole enc Tryd.prog ((laidWorld os).forCall (fun _ _ => 0) ⟨#[], #[.slice none 0 0], []⟩).memory Tryd.f3.params.toList Rows.fnExactFormatOpsSpec.vars false (#[.slice none 0 0] : Array Value).toList 8 with _ | ⟨a, b, c⟩
  · rw [hw] at h; cases h
  · rw [hw] at h
    simp only [Option.map_some, Option.some.injEq] at h
    subst h
    exact ⟨b, c, rfl⟩
set_option maxRecDepth 100000 in
theorem lifted (os : Os) (started : os.Started) (H : Type) (enc : TypeId × Value → H) (F : Stop.Interp) :
    ReturnsInHanded {} Tryd.checked os 3 .any ((OpenSpec.ofChange Rows.fnExactFormatOpsSpec).preRow enc Tryd.prog Tryd.f3 Rows.fnExactFormatOpsRow.domain false Rows.fnExactFormatOpsRow.laid) (((OpenSpec.ofChange Rows.fnExactFormatOpsSpec).at F).post enc Tryd.prog Tryd.f3 false true false false) := by
  obtain ⟨gs0, places, hx⟩ := reads os enc
  refine returnsInHanded_of_row (C := Tryd.checked) (s := OpenSpec.ofChange Rows.fnExactFormatOpsSpec) own started (by kernel_rfl) Tryd.func3
    (witness_row_at (enc := enc) (C := Tryd.checked) false (laidWorld os) #[.slice none 0 0] rfl (by kernel_rfl) (by kernel_rfl) (by kernel_rfl)
      (OpenSpec.preRow_of_cond 8 hx (by kernel_rfl) (fun k hk => by cases hk) (by kernel_rfl) (laid_met os))) ?_
  intro W base args ds gs before hval hW _ _ _ hL _ _
  exact contract H enc W base args ds gs before hval hW hL

theorem said : Rows.FnExactFormatOpsSaid :=
  OpenClaim.holds_of_cond 3 Tryd.f3 rfl rfl rfl rfl rfl rfl rfl ⟨rfl, rfl, rfl, rfl, rfl⟩ rfl rfl rfl rfl rfl (by kernel_rfl) Tryd.func3 (by kernel_rfl)
    (of_decide_eq_true (by kernel_rfl)) (by unfold Func.isWrapper; first | (rw [if_pos (by decide +kernel)]; kernel_rfl) | (rw [if_neg (by decide +kernel)]; exact ⟨rfl, rfl⟩))
    (fun os started H enc _ F => by rw [OpenClaim.pre_eq_preRow]; exact lifted os started H enc F)
theorem plain (f : FuncId) (fn : Func) (hf : Tryd.pinned.checked.prog.funcNamed "loop.example/g01924/laws.FnExactFormatOps" = some f) (hfn : Tryd.pinned.checked.prog.funcs[f]? = some fn) :
    true = Tryd.pinned.checked.prog.looks [] ∧ ∀ (j : Nat) t, fn.params[j]? = some t → Tryd.pinned.checked.prog.wantsStandIn t = false := by
  obtain rfl : f = 3 := Option.some.inj ((show Tryd.prog.funcNamed "loop.example/g01924/laws.FnExactFormatOps" = some 3 by kernel_rfl).symm.trans hf) |>.symm
  obtain rfl : fn = Tryd.f3 := (Option.some.inj (Tryd.func3.symm.trans hfn)).symm
  refine ⟨by kernel_rfl, fun j t ht => ?_⟩
  rw [Tryd.params3] at ht
  have hm : t ∈ [22] := by simpa using Array.mem_of_getElem? ht
  have hall : ([22].all fun u => !Tryd.prog.wantsStandIn u) = true := by kernel_rfl
  exact (show Tryd.prog.wantsStandIn t = false by simpa using List.all_eq_true.1 hall t hm)

/-- THE CARD -/
theorem card : Rows.FnExactFormatOpsCardSaid :=
  Claim7.holds_tied_plain_at .later [] _ _ _ _ said (fun _ h => by cases h) (by kernel_rfl) (fun _ h => by cases h) fnExactFormatOps_row_tie rfl ⟨rfl, rfl⟩ (by kernel_rfl) rfl plain (by kernel_rfl)
#print axioms card
end Go.Proofs.YtjnlbhmddhpmaabDoor.fnExactFormatOps
