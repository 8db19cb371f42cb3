/- FormatStep of the program answers as its model at every step: the law returns true and writes nothing that was there; its three listed tables are tied to the text of the program. No other condition. -/
import Derived.Test.YtjnlbhmddhpmaaaDoorFms
import Derived.Test.YtjnlbhmddhpmaaaDoorCards
import Derived.Test.YtjnlbhmddhpmaaaDoorTie
import Derived.Test.YtjnlbhmddhpmaaaDoorTabs
import Derived.WalkKit
import Derived.ProofKit
import Derived.OpenShut
import Derived.ShutString
import Derived.ChangeOld
import Derived.Below
import Derived.Carry
import Derived.Lib.Hide
import Derived.StillTailTactics
import Derived.Deep.RegionHeld3
import Derived.Deep.DeepHandedRow
namespace Go.Proofs.YtjnlbhmddhpmaaaDoor.fnExactFormatStep
open Go.ChangeShapes Go.WideShapes Go.ChangeAt Go.RowKit
open Go.ChangeMaps (open_string shut_string)
open Go.Proofs.YtjnlbhmddhpmaaaDoor.vers (new2 new3)
set_option linter.unusedVariables false
abbrev Facts (w : World) : Prop := Lib.TabIs Tryd.prog w "internal/strconv.uint64pow10" .u64 Lib.pow10Tab
noncomputable abbrev laidWorld := Go.Proofs.YtjnlbhmddhpmaaaDoor.tabs.tabWorld
theorem own : ownKnob Tryd.prog.godebug = none := by kernel_rfl
theorem laidOut : laidOutB Tryd.prog = true := by kernel_rfl
set_option maxHeartbeats 1600000 in
theorem walk (y0 : Int) (A0 : Option Addr) (n0 c0 : Nat) (L0 : List Int) (w : World) (h0 : Go.Proofs.YtjnlbhmddhpmaaaDoor.ints.Is w w.heap.size A0 n0 L0) (m0 : n0 ≤ maxLen) (hF : Facts w) :
    Calls Tryd.prog 3 #[.agg #[.int .i64 y0, .slice A0 n0 c0]] w fun e w' => e = .returned (.bool true) ∧ Below w.heap.size w w' := by
  have HF := Lib.hid hF
  clear hF
  unfold maxLen at m0
  have H0 := Lib.hid h0
  clear h0
  by_cases hbig0 : (1048576 : Int) < (n0 : Int)
  · have hz := Go.Proofs.YtjnlbhmddhpmaaaDoor.stp.szK_no (left := (1048576 : Int)) (n := n0) (by omega)
    have HZ0 := Lib.hid hz
    clear hz
    go_enter Tryd.func3, Tryd.ntmps3
    go_wp2_with fail
    have hx0 := Go.Proofs.YtjnlbhmddhpmaaaDoor.stp.SB.new w y0 (.slice A0 n0 c0) 24
    have hl0 : w.heap.size < (w.alloc (.cells #[.int .i64 y0, .slice A0 n0 c0] 24)).heap.size := by simp; try omega
    have hb := Go.Proofs.YtjnlbhmddhpmaaaDoor.vers.new1 w (.cells #[.int .i64 y0, .slice A0 n0 c0] 24)
    generalize (w.alloc (.cells #[.int .i64 y0, .slice A0 n0 c0] 24)) = W1 at hx0 hl0 hb ⊢
    have HB1 : Hid (Below w.heap.size w W1) := Lib.hid hb
    have HS1 : Hid (Below w.heap.size w W1) := Lib.hid hb
    clear hb
    have b0_1 := Lib.hid hx0
    have b0l_1 := hl0
    clear hx0 hl0
    refine (Go.Proofs.YtjnlbhmddhpmaaaDoor.stp.count_step y0 A0 n0 c0 _ _ (by omega) (by omega) (by omega)).mono ?_
    rintro e W2 ⟨rfl, hb⟩
    rw [HZ0.out]
    have HB2 : Hid (Below w.heap.size w W2) := Lib.hid (HB1.out.trans (hb.mono HB1.out.size))
    have HS2 : Hid (Below W1.heap.size W1 W2) := Lib.hid hb
    clear hb
    have b0_2 := Lib.hid ((b0_1.out).keep b0l_1 (HS2.out))
    have b0l_2 := Nat.lt_of_lt_of_le b0l_1 HS2.out.size
    clear b0_1 b0l_1
    go_wp2_with fail
    go_ret
    exact ⟨rfl, HB2.out⟩
  have hz := Go.Proofs.YtjnlbhmddhpmaaaDoor.stp.szK_yes (left := (1048576 : Int)) (n := n0) (by omega)
  have HZ0 := Lib.hid hz
  clear hz
  obtain ⟨lf0, hlf⟩ : ∃ lf : Int, lf = (1048576 : Int) - (n0 : Int) := ⟨_, rfl⟩
  have hz := HZ0.out
  clear HZ0
  rw [← hlf] at hz
  have HZ0 := Lib.hid hz
  have tz0 : decide (lf0 < 0) = false := decide_eq_false (by omega)
  have lf00 : 0 ≤ lf0 := by omega
  have lf10 : lf0 ≤ 1048576 := by omega
  clear hlf hz
  obtain ⟨q0z, hq0⟩ : ∃ q, Go.Proofs.YtjnlbhmddhpmaaaDoor.fms.fmS y0 L0 = q := ⟨_, rfl⟩
  have HQ0 := Lib.hid hq0
  clear hq0
  go_enter Tryd.func3, Tryd.ntmps3
  go_wp2_with fail
  have hx0 := Go.Proofs.YtjnlbhmddhpmaaaDoor.stp.SB.new w y0 (.slice A0 n0 c0) 24
  have hl0 : w.heap.size < (w.alloc (.cells #[.int .i64 y0, .slice A0 n0 c0] 24)).heap.size := by simp; try omega
  have hb := Go.Proofs.YtjnlbhmddhpmaaaDoor.vers.new1 w (.cells #[.int .i64 y0, .slice A0 n0 c0] 24)
  generalize (w.alloc (.cells #[.int .i64 y0, .slice A0 n0 c0] 24)) = W1 at hx0 hl0 hb ⊢
  have HB1 : Hid (Below w.heap.size w W1) := Lib.hid hb
  have HS1 : Hid (Below w.heap.size w W1) := Lib.hid hb
  clear hb
  have b0_1 := Lib.hid hx0
  have b0l_1 := hl0
  clear hx0 hl0
  refine (Go.Proofs.YtjnlbhmddhpmaaaDoor.stp.count_step y0 A0 n0 c0 _ _ (by omega) (by omega) (by omega)).mono ?_
  rintro e W2 ⟨rfl, hb⟩
  rw [HZ0.out]
  have HB2 : Hid (Below w.heap.size w W2) := Lib.hid (HB1.out.trans (hb.mono HB1.out.size))
  have HS2 : Hid (Below W1.heap.size W1 W2) := Lib.hid hb
  clear hb
  have b0_2 := Lib.hid ((b0_1.out).keep b0l_1 (HS2.out))
  have b0l_2 := Nat.lt_of_lt_of_le b0l_1 HS2.out.size
  clear b0_1 b0l_1
  obtain ⟨b0c0, b0c1⟩ := b0_2.out
  go_wp2_with fail
  refine (Go.Proofs.YtjnlbhmddhpmaaaDoor.stp.copy_step y0 (by omega) (H0.out.below HB2.out) (HB2.out).size).mono ?_
  rintro e W3 ⟨Ns1, rfl, hv, hb⟩
  have HB3 : Hid (Below w.heap.size w W3) := Lib.hid (HB2.out.trans (hb.mono HB2.out.size))
  have HS3 : Hid (Below W2.heap.size W2 W3) := Lib.hid hb
  clear hb
  have b0_3 := Lib.hid ((b0_2.out).keep b0l_2 (HS3.out))
  have b0l_3 := Nat.lt_of_lt_of_le b0l_2 HS3.out.size
  clear b0_2 b0l_2
  have s1_3 := Lib.hid hv
  clear hv
  clear b0c0 b0c1
  go_wp2_with fail
  refine (Go.Proofs.YtjnlbhmddhpmaaaDoor.fms.spec_fms y0 (by omega) s1_3.out (Nat.le_refl _)).mono ?_
  rintro e W4 ⟨he, hb⟩
  rw [HQ0.out] at he
  subst he
  have HB4 : Hid (Below w.heap.size w W4) := Lib.hid (HB3.out.trans (hb.mono HB3.out.size))
  have HS4 : Hid (Below W3.heap.size W3 W4) := Lib.hid hb
  clear hb
  have b0_4 := Lib.hid ((b0_3.out).keep b0l_3 (HS4.out))
  have b0l_4 := Nat.lt_of_lt_of_le b0l_3 HS4.out.size
  clear b0_3 b0l_3
  have s1_4 := Lib.hid ((s1_3.out.below HS4.out).more HS4.out.size)
  clear s1_3
  obtain ⟨b0c0, b0c1⟩ := b0_4.out
  go_wp2_with fail
  refine (Go.Proofs.YtjnlbhmddhpmaaaDoor.stp.copy_step y0 (by omega) (H0.out.below HB4.out) (HB4.out).size).mono ?_
  rintro e W5 ⟨Ns2, rfl, hv, hb⟩
  have HB5 : Hid (Below w.heap.size w W5) := Lib.hid (HB4.out.trans (hb.mono HB4.out.size))
  have HS5 : Hid (Below W4.heap.size W4 W5) := Lib.hid hb
  clear hb
  have b0_5 := Lib.hid ((b0_4.out).keep b0l_4 (HS5.out))
  have b0l_5 := Nat.lt_of_lt_of_le b0l_4 HS5.out.size
  clear b0_4 b0l_4
  have s1_5 := Lib.hid ((s1_4.out.below HS5.out).more HS5.out.size)
  clear s1_4
  have s2_5 := Lib.hid hv
  clear hv
  clear b0c0 b0c1
  go_wp2_with fail
  have hx0 := Go.Proofs.YtjnlbhmddhpmaaaDoor.stp.SB.new W5 y0 (.slice (some ⟨Ns2, 0, none⟩) n0 n0) 27
  have hl0 : W5.heap.size < (W5.alloc (.cells #[.int .i64 y0, .slice (some ⟨Ns2, 0, none⟩) n0 n0] 27)).heap.size := by simp; try omega
  have hb := Go.Proofs.YtjnlbhmddhpmaaaDoor.vers.new1 W5 (.cells #[.int .i64 y0, .slice (some ⟨Ns2, 0, none⟩) n0 n0] 27)
  generalize (W5.alloc (.cells #[.int .i64 y0, .slice (some ⟨Ns2, 0, none⟩) n0 n0] 27)) = W6 at hx0 hl0 hb ⊢
  have HB6 : Hid (Below w.heap.size w W6) := Lib.hid (HB5.out.trans (hb.mono HB5.out.size))
  have HS6 : Hid (Below W5.heap.size W5 W6) := Lib.hid hb
  clear hb
  have b0_6 := Lib.hid ((b0_5.out).keep b0l_5 (HS6.out))
  have b0l_6 := Nat.lt_of_lt_of_le b0l_5 HS6.out.size
  clear b0_5 b0l_5
  have s1_6 := Lib.hid ((s1_5.out.below HS6.out).more HS6.out.size)
  clear s1_5
  have s2_6 := Lib.hid ((s2_5.out.below HS6.out).more HS6.out.size)
  clear s2_5
  have b1_6 := Lib.hid hx0
  have b1l_6 := hl0
  clear hx0 hl0
  refine (Go.Proofs.YtjnlbhmddhpmaaaDoor.fms.impl_fms y0 (by omega) s2_6.out (Nat.le_refl _) (Go.Proofs.YtjnlbhmddhpmaaaDoor.tabs.powTab_below HF.out HB6.out)).mono ?_
  rintro e W7 ⟨he, hb⟩
  rw [HQ0.out] at he
  subst he
  have HB7 : Hid (Below w.heap.size w W7) := Lib.hid (HB6.out.trans (hb.mono HB6.out.size))
  have HS7 : Hid (Below W6.heap.size W6 W7) := Lib.hid hb
  clear hb
  have b0_7 := Lib.hid ((b0_6.out).keep b0l_6 (HS7.out))
  have b0l_7 := Nat.lt_of_lt_of_le b0l_6 HS7.out.size
  clear b0_6 b0l_6
  have b1_7 := Lib.hid ((b1_6.out).keep b1l_6 (HS7.out))
  have b1l_7 := Nat.lt_of_lt_of_le b1l_6 HS7.out.size
  clear b1_6 b1l_6
  have s1_7 := Lib.hid ((s1_6.out.below HS7.out).more HS7.out.size)
  clear s1_6
  have s2_7 := Lib.hid ((s2_6.out.below HS7.out).more HS7.out.size)
  clear s2_6
  go_wp2_with fail
  have hbk0 : Below W7.heap.size W7 W7.drew := (Below.refl _ _).drew
  have hbw0 := HB7.out.trans (hbk0.mono HB7.out.size)
  obtain ⟨b1c0, b1c1⟩ := b1_7.out
  obtain ⟨b0c0, b0c1⟩ := b0_7.out
  go_region_held3 (fun w' => w'.cell? ⟨W5.heap.size, 0, none⟩ = some (.int .i64 y0) ∧ w'.cell? ⟨W5.heap.size, 1, none⟩ = some (.slice (some ⟨Ns2, 0, none⟩) n0 n0) ∧ w'.cell? ⟨w.heap.size, 0, none⟩ = some (.int .i64 y0) ∧ w'.cell? ⟨w.heap.size, 1, none⟩ = some (.slice A0 n0 c0)) (go_keep) (first | (go_at_call 10; (with_reducible refine (Go.Proofs.YtjnlbhmddhpmaaaDoor.stp.same_step y0 (by omega) ((s2_7.out.below hbk1).more hbk1.size) s3a1 (Nat.le_refl _)).mono ?_); rintro e W8 ⟨rfl, hb⟩; have hbk2 := hbk1.trans (hb.mono hbk1.size); have hbw2 := HB7.out.trans (hbk2.mono HB7.out.size); have s3a2 := (s3a1.below hb).more hb.size; clear hb ; obtain ⟨b1d20, b1d21⟩ := ((b1_7.out).keep b1l_7 (hbk2)); obtain ⟨b0d20, b0d21⟩ := ((b0_7.out).keep b0l_7 (hbk2))) | (go_at_call 8; (with_reducible refine (Go.Proofs.YtjnlbhmddhpmaaaDoor.stp.copy_step y0 (by omega) (H0.out.below hbw0) (hbw0).size).mono ?_); rintro e Wa1 ⟨Ns3, rfl, hv, hb⟩; have hbk1 := hbk0.trans (hb.mono hbk0.size); have hbw1 := HB7.out.trans (hbk1.mono HB7.out.size); have s3a1 := hv; clear hb hv; obtain ⟨b1d10, b1d11⟩ := ((b1_7.out).keep b1l_7 (hbk1)); obtain ⟨b0d10, b0d11⟩ := ((b0_7.out).keep b0l_7 (hbk1))))
  have hb := hbk2
  clear hbk0 hbw0 s3a1 b1d10 b1d11 b0d10 b0d11 hbk1 hbw1 s3a2 b1d20 b1d21 b0d20 b0d21 hbk2 hbw2 b1c0 b1c1 b0c0 b0c1
  have HB8 : Hid (Below w.heap.size w W8) := Lib.hid (HB7.out.trans (hb.mono HB7.out.size))
  have HS8 : Hid (Below W7.heap.size W7 W8) := Lib.hid hb
  clear hb
  have b0_8 := Lib.hid ((b0_7.out).keep b0l_7 (HS8.out))
  have b0l_8 := Nat.lt_of_lt_of_le b0l_7 HS8.out.size
  clear b0_7 b0l_7
  have b1_8 := Lib.hid ((b1_7.out).keep b1l_7 (HS8.out))
  have b1l_8 := Nat.lt_of_lt_of_le b1l_7 HS8.out.size
  clear b1_7 b1l_7
  have s1_8 := Lib.hid ((s1_7.out.below HS8.out).more HS8.out.size)
  clear s1_7
  have s2_8 := Lib.hid ((s2_7.out.below HS8.out).more HS8.out.size)
  clear s2_7
  go_wp2_with fail
  go_ret
  exact ⟨rfl, HB8.out⟩
def readArgs (H : Type) : List (DataW H) := [.agg [.lit (.int .i64 0), .nil]]
theorem facts {W : World} (h : laidMetH Tryd.prog Rows.fnExactFormatStepRow.laid W) : Facts W := Go.Proofs.YtjnlbhmddhpmaaaDoor.tabs.powTab (rest := []) h
/-! ### THE ROW -/
set_option maxRecDepth 100000 in
theorem contract (H : Type) (enc : TypeId × Value → H) (W : World) (base : Nat) (args : Array Value) (ds gs : List (DataW H)) (before : List MemPlace)
    (hval0 : ∀ (j : Nat) t v, Tryd.f3.params[j]? = some t → args[j]? = some v → Value.okWide Tryd.prog W .any base t v)
    (hW : DataW.Whole enc Tryd.prog Tryd.f3.params.toList Rows.fnExactFormatStepSpec.vars false W args.toList ds gs before) (hL : laidMetH Tryd.prog Rows.fnExactFormatStepRow.laid W) :
    Calls Tryd.prog 3 args W fun e W' => ∃ v, e = .returned v ∧ Rows.fnExactFormatStepSpec.post enc Tryd.prog Tryd.f3 false true false false W args v W' := by
  have hval := hval0
  have hW' := hW
  obtain ⟨pp, qq, hA0, hV, rfl, hfz, hnd⟩ := hW
  have hA : DataW.TrodAll enc Tryd.prog W 0 (fun _ => true) true Tryd.f3.params.toList args.toList ds pp := hA0
  rw [Tryd.params3] at hA hval
  obtain ⟨v0, vs0, dd0, ds0, pp0, qq0, hargs, rfl, rfl, h0, r0⟩ := trodAll_cons hA
  obtain ⟨rfl, rfl, rfl⟩ := trodAll_nil r0
  obtain rfl : args = #[v0] := by cases args; simp_all
  obtain ⟨rfl, rfl⟩ := trodVars_none hV
  have k0 := h0
  have lt0 : ∀ x ∈ pp0, x.block < W.heap.size := by obtain ⟨m, hm⟩ := k0; exact DataW.trod_lt m _ _ _ hm
  obtain ⟨y0, A0, n0, c0, L0, rfl, w0, m0⟩ := Go.Proofs.YtjnlbhmddhpmaaaDoor.stp.open_step (hval 0 24 v0 rfl rfl) h0
  clear hA0 hval0
  refine (walk y0 A0 n0 c0 L0 W w0 m0 (facts hL)).mono fun e W' ⟨he, bel⟩ => ?_
  subst he
  exact ⟨_, rfl, _, _, _, [], _, [], hW', trodAll_mk1 (shut_bool Tryd.underlying4 _), (trodAll_cons_mk (Below.trod laidOut (by kernel_rfl) (of_decide_eq_true (by kernel_rfl)) k0 bel lt0) trodAll_mk0), rfl, bel.frame _, fun h => by cases h⟩

set_option maxRecDepth 100000 in
theorem laid_met (os : Os) : laidMetH Tryd.prog Rows.fnExactFormatStepRow.laid ((laidWorld os).forCall (fun _ _ => 0) ⟨#[], #[.agg #[.int .i64 0, .slice none 0 0]], []⟩).memory :=
  laidMet_of_run' 8 (by kernel_rfl) (by kernel_rfl)
set_option maxRecDepth 100000 in
theorem reads (os : Os) {H : Type} (enc : TypeId × Value → H) : ∃ gs places, DataW.whole enc Tryd.prog ((laidWorld os).forCall (fun _ _ => 0) ⟨#[], #[.agg #[.int .i64 0, .slice none 0 0]], []⟩).memory Tryd.f3.params.toList Rows.fnExactFormatStepSpec.vars false (#[.agg #[.int .i64 0, .slice none 0 0]] : Array Value).toList 8 = some (readArgs H, gs, places) := by
  have h : (DataW.whole enc Tryd.prog ((laidWorld os).forCall (fun _ _ => 0) ⟨#[], #[.agg #[.int .i64 0, .slice none 0 0]], []⟩).memory Tryd.f3.params.toList Rows.fnExactFormatStepSpec.vars false (#[.agg #[.int .i64 0, .slice none 0 0]] : Array Value).toList 8).map (fun x => x.1) = some (readArgs H) := by kernel_rfl
  rcases hw : DataW.whole enc Tryd.prog ((laidWorld os).forCall (fun _ _ => 0) ⟨#[], #[.agg #[.int .i64 0, .slice none 0 0]], []⟩).memory Tryd.f3.params.toList Rows.fnExactFormatStepSpec.vars false (#[.agg #[.int .i64 0, .slice none 0 0]] : Array Value).toList 8 with _ | ⟨a, b, c⟩
  · rw [hw] at h; cases h
  · rw [hw] at h
    simp only [Option.map_some, Option.some.injEq] at h
    subst h
    exact ⟨b, c, rfl⟩
set_option maxRecDepth 100000 in
theorem lifted (os : Os) (started : os.Started) (H : Type) (enc : TypeId × Value → H) (F : Stop.Interp) :
    ReturnsInHanded {} Tryd.checked os 3 .any ((OpenSpec.ofChange Rows.fnExactFormatStepSpec).preRow enc Tryd.prog Tryd.f3 Rows.fnExactFormatStepRow.domain false Rows.fnExactFormatStepRow.laid) (((OpenSpec.ofChange Rows.fnExactFormatStepSpec).at F).post enc Tryd.prog Tryd.f3 false true false false) := by
  obtain ⟨gs0, places, hx⟩ := reads os enc
  refine returnsInHanded_of_row (C := Tryd.checked) (s := OpenSpec.ofChange Rows.fnExactFormatStepSpec) own started (by kernel_rfl) Tryd.func3
    (witness_row_at (enc := enc) (C := Tryd.checked) false (laidWorld os) #[.agg #[.int .i64 0, .slice none 0 0]] rfl (by kernel_rfl) (by kernel_rfl) (by kernel_rfl)
      (OpenSpec.preRow_of_cond 8 hx (by kernel_rfl) (fun k hk => by cases hk) (by kernel_rfl) (laid_met os))) ?_
  intro W base args ds gs before hval hW _ _ _ hL _ _
  exact contract H enc W base args ds gs before hval hW hL

theorem said : Rows.FnExactFormatStepSaid :=
  OpenClaim.holds_of_cond 3 Tryd.f3 rfl rfl rfl rfl rfl rfl rfl ⟨rfl, rfl, rfl, rfl, rfl⟩ rfl rfl rfl rfl rfl (by kernel_rfl) Tryd.func3 (by kernel_rfl)
    (of_decide_eq_true (by kernel_rfl)) (by unfold Func.isWrapper; first | (rw [if_pos (by decide +kernel)]; kernel_rfl) | (rw [if_neg (by decide +kernel)]; exact ⟨rfl, rfl⟩))
    (fun os started H enc _ F => by rw [OpenClaim.pre_eq_preRow]; exact lifted os started H enc F)
theorem plain (f : FuncId) (fn : Func) (hf : Tryd.pinned.checked.prog.funcNamed "loop.example/g01924/laws.FnExactFormatStep" = some f) (hfn : Tryd.pinned.checked.prog.funcs[f]? = some fn) :
    true = Tryd.pinned.checked.prog.looks [] ∧ ∀ (j : Nat) t, fn.params[j]? = some t → Tryd.pinned.checked.prog.wantsStandIn t = false := by
  obtain rfl : f = 3 := Option.some.inj ((show Tryd.prog.funcNamed "loop.example/g01924/laws.FnExactFormatStep" = some 3 by kernel_rfl).symm.trans hf) |>.symm
  obtain rfl : fn = Tryd.f3 := (Option.some.inj (Tryd.func3.symm.trans hfn)).symm
  refine ⟨by kernel_rfl, fun j t ht => ?_⟩
  rw [Tryd.params3] at ht
  have hm : t ∈ [24] := by simpa using Array.mem_of_getElem? ht
  have hall : ([24].all fun u => !Tryd.prog.wantsStandIn u) = true := by kernel_rfl
  exact (show Tryd.prog.wantsStandIn t = false by simpa using List.all_eq_true.1 hall t hm)

/-- THE CARD -/
theorem card : Rows.FnExactFormatStepCardSaid :=
  Claim7.holds_tied_plain_at .later [] _ _ _ _ said (fun _ h => by cases h) (by kernel_rfl) (fun _ h => by cases h) fnExactFormatStep_row_tie rfl ⟨rfl, rfl⟩ (by kernel_rfl) rfl plain (by kernel_rfl)
#print axioms card
end Go.Proofs.YtjnlbhmddhpmaaaDoor.fnExactFormatStep
