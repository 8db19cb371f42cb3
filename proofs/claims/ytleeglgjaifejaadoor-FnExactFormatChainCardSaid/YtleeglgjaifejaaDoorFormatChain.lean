/- FormatChain of the program answers as its model at every slice of versions: the law returns true and writes nothing that was there; its three listed tables are tied to the text of the program. No other condition. -/
import Derived.Test.YtleeglgjaifejaaDoorOpen
import Derived.Test.YtleeglgjaifejaaDoorText
import Derived.WalkKit
import Derived.ProofKit
import Derived.OpenShut
import Derived.ShutString
import Derived.ChangeOld
import Derived.Below
import Derived.Carry
import Derived.Lib.Hide
import Derived.Deep.DeepHandedRow
import Derived.Test.YtleeglgjaifejaaDoorCards
import Derived.Test.YtleeglgjaifejaaDoorTie
namespace Go.Proofs.YtleeglgjaifejaaDoor.fnExactFormatChain
open Go.ChangeShapes Go.WideShapes Go.ChangeAt Go.RowKit
open Go.ChangeMaps (open_string shut_string)
open Go.Proofs.YtleeglgjaifejaaDoor.vers Go.Proofs.YtleeglgjaifejaaDoor.sl Go.Proofs.YtleeglgjaifejaaDoor.opn Go.Proofs.YtleeglgjaifejaaDoor.ch Go.Proofs.YtleeglgjaifejaaDoor.tabs Go.Proofs.YtleeglgjaifejaaDoor.text
set_option linter.unusedVariables false
def Facts (W : World) : Prop := Lib.TabIs Tryd.prog W "internal/strconv.uint64pow10" .u64 Lib.pow10Tab
theorem facts {W : World} (h : laidMetH Tryd.prog Rows.fnExactFormatChainRow.laid W) : Facts W := powTab (rest := []) h
noncomputable def laidWorld (os : Os) : World := tabWorld os
set_option maxRecDepth 100000 in
theorem walk (a0 : Option Addr) (len0 cap0 : Nat) (l0 : List Ver) (w : World) (h0 : Vs w w.heap.size a0 len0 l0) (m0 : len0 ≤ maxLen) (hF : Facts w) :
    Calls Tryd.prog 4 #[.slice a0 len0 cap0] w fun e w' => e = .returned (.bool true) ∧ Below w.heap.size w w' := by
  unfold maxLen at m0
  have H0 := Lib.hid h0
  have HF := Lib.hid hF
  clear h0 hF
  by_cases hbig : (1048576 : Int) < (len0 : Int)
  · go_enter Tryd.func4, Tryd.ntmps4
    go_wp2_with fail
    refine (count_no _ _ _ _ _ (by omega) (by omega) (by omega) hbig).mono ?_
    rintro e W0 ⟨rfl, rfl⟩
    go_wp2_with fail
    go_ret
    exact ⟨rfl, Below.refl _ _⟩
  · have hsm : len0 ≤ 1048576 := by omega
    go_enter Tryd.func4, Tryd.ntmps4
    go_wp2_with fail
    refine (count_yes _ _ _ _ _ (by omega) (by omega) (by omega) (by omega)).mono ?_
    rintro e W0 ⟨rfl, rfl⟩
    go_wp2_with fail
    refine (copied (by omega) H0.out (Nat.le_refl _)).mono ?_
    rintro e W1 ⟨N1, rfl, hN, hv, hb⟩
    have V1 := Lib.hid hv
    clear hv hN
    have HB1 : Hid (Below w.heap.size w W1) := Lib.hid hb
    clear hb
    go_wp2_with fail
    refine (spec_chain_text (by omega) (V1.out) (Nat.le_refl _)).mono ?_
    rintro e W2 ⟨rfl, hb⟩
    have HB2 : Hid (Below w.heap.size w W2) := Lib.hid (HB1.out.trans (hb.mono HB1.out.size))
    have HS2 : Hid (Below W1.heap.size W1 W2) := Lib.hid hb
    clear hb
    go_wp2_with fail
    refine (copied (by omega) (H0.out.below HB2.out) HB2.out.size).mono ?_
    rintro e W3 ⟨N2, rfl, hN, hv, hb⟩
    have V2 := Lib.hid hv
    clear hv hN
    have HB3 : Hid (Below w.heap.size w W3) := Lib.hid (HB2.out.trans (hb.mono HB2.out.size))
    have HS3 : Hid (Below W2.heap.size W2 W3) := Lib.hid hb
    clear hb
    go_wp2_with fail
    refine (impl_chain_text (by omega) (V2.out) (Nat.le_refl _) (powTab_below HF.out HB3.out)).mono ?_
    rintro e W4 ⟨rfl, hb⟩
    have HB4 : Hid (Below w.heap.size w W4) := Lib.hid (HB3.out.trans (hb.mono HB3.out.size))
    have HS4 : Hid (Below W3.heap.size W3 W4) := Lib.hid hb
    clear hb
    go_wp2_with fail
    refine (copied (by omega) (H0.out.below HB4.out) HB4.out.size).mono ?_
    rintro e W5 ⟨N3, rfl, hN, hv, hb⟩
    have V3 := Lib.hid hv
    clear hv hN
    have HB5 : Hid (Below w.heap.size w W5) := Lib.hid (HB4.out.trans (hb.mono HB4.out.size))
    have HS5 : Hid (Below W4.heap.size W4 W5) := Lib.hid hb
    clear hb
    go_wp2_with fail
    refine (same_versions (by omega) (((((V2.out).below HS4.out).more HS4.out.size).below HS5.out).more HS5.out.size) (V3.out) (Nat.le_refl _)).mono ?_
    rintro e W6 ⟨rfl, hb⟩
    have HB6 : Hid (Below w.heap.size w W6) := Lib.hid (HB5.out.trans (hb.mono HB5.out.size))
    have HS6 : Hid (Below W5.heap.size W5 W6) := Lib.hid hb
    clear hb
    go_wp2_with fail
    go_ret
    exact ⟨rfl, HB6.out⟩
set_option maxRecDepth 100000 in
theorem contract (H : Type) (enc : TypeId × Value → H) (W : World) (base : Nat) (args : Array Value) (ds gs : List (DataW H)) (before : List MemPlace)
    (hval : ∀ (j : Nat) t v, Tryd.f4.params[j]? = some t → args[j]? = some v → Value.okWide Tryd.prog W .any base t v)
    (hW : DataW.Whole enc Tryd.prog Tryd.f4.params.toList Rows.fnExactFormatChainSpec.vars false W args.toList ds gs before) (hL : laidMetH Tryd.prog Rows.fnExactFormatChainRow.laid W) :
    Calls Tryd.prog 4 args W fun e W' => ∃ v, e = .returned v ∧ Rows.fnExactFormatChainSpec.post enc Tryd.prog Tryd.f4 false true false false W args v W' := by
  have hW' := hW
  obtain ⟨p, q, hA0, hV, rfl, hfz, hnd⟩ := hW
  have hA : DataW.TrodAll enc Tryd.prog W 0 (fun _ => true) true Tryd.f4.params.toList args.toList ds p := hA0
  rw [Tryd.params4] at hA hval
  obtain ⟨v0, vs0, d0, ds0, p0, q0, hargs, rfl, rfl, h0, r0⟩ := trodAll_cons hA
  obtain ⟨rfl, rfl, rfl⟩ := trodAll_nil r0
  obtain rfl : args = #[v0] := by cases args; simp_all
  obtain ⟨rfl, rfl⟩ := trodVars_none hV
  have k0 := h0
  have lt0 : ∀ x ∈ p0, x.block < W.heap.size := by obtain ⟨m, hm⟩ := k0; exact DataW.trod_lt m _ _ _ hm
  obtain ⟨a0, len0, cap0, rfl⟩ := okWide_slice Tryd.underlying41 (hval 0 41 v0 rfl rfl)
  obtain ⟨l0, w0, m0⟩ := open_versions h0
  clear hA0
  refine (walk a0 len0 cap0 l0 W w0 m0 (facts hL)).mono fun e W' ⟨he, bel⟩ => ?_
  subst he
  exact ⟨_, rfl, _, _, _, [], _, [], hW', trodAll_mk1 (shut_bool Tryd.underlying4 _), (trodAll_cons_mk (Below.trod laidOut (by kernel_rfl) (of_decide_eq_true (by kernel_rfl)) k0 bel lt0) trodAll_mk0), rfl, bel.frame _, fun h => by cases h⟩

set_option maxRecDepth 100000 in
theorem laid_met (os : Os) : laidMet Tryd.prog Rows.fnExactFormatChainRow.laid ((laidWorld os).forCall (fun _ _ => 0) ⟨#[], #[.slice none 0 0], []⟩).memory :=
  laidMet_of_run' 8 (by kernel_rfl) (by kernel_rfl)
set_option maxRecDepth 100000 in
theorem reads (os : Os) {H : Type} (enc : TypeId × Value → H) : ∃ places, DataW.whole enc Tryd.prog ((laidWorld os).forCall (fun _ _ => 0) ⟨#[], #[.slice none 0 0], []⟩).memory Tryd.f4.params.toList Rows.fnExactFormatChainSpec.vars false (#[(Value.slice none 0 0)] : Array Value).toList 8 = some ([.nil], [], places) :=
  ⟨[], by kernel_rfl⟩
set_option maxRecDepth 100000 in
theorem lifted (os : Os) (started : os.Started) (H : Type) (enc : TypeId × Value → H) (F : Stop.Interp) :
    ReturnsInHanded {} Tryd.checked os 4 .any ((OpenSpec.ofChange Rows.fnExactFormatChainSpec).preRow enc Tryd.prog Tryd.f4 Rows.fnExactFormatChainRow.domain false Rows.fnExactFormatChainRow.laid) (((OpenSpec.ofChange Rows.fnExactFormatChainSpec).at F).post enc Tryd.prog Tryd.f4 false true false false) := by
  obtain ⟨places, hx⟩ := reads os enc
  refine returnsInHanded_of_row (C := Tryd.checked) (s := OpenSpec.ofChange Rows.fnExactFormatChainSpec) own started (by kernel_rfl) Tryd.func4
    (witness_row_at (enc := enc) (C := Tryd.checked) false (laidWorld os) #[.slice none 0 0] rfl (by kernel_rfl) (by kernel_rfl) (by kernel_rfl)
      (OpenSpec.preRow_of_cond 8 hx (by kernel_rfl) (fun k hk => by cases hk) (by kernel_rfl) (laid_met os))) ?_
  intro W base args ds gs before hval hW _ _ _ hL _ _
  exact contract H enc W base args ds gs before hval hW hL

theorem said : Rows.FnExactFormatChainSaid :=
  OpenClaim.holds_of_cond 4 Tryd.f4 rfl rfl rfl rfl rfl rfl rfl ⟨rfl, rfl, rfl, rfl, rfl⟩ rfl rfl rfl rfl rfl (by kernel_rfl) Tryd.func4 (by kernel_rfl)
    (of_decide_eq_true (by kernel_rfl)) (by unfold Func.isWrapper; first | (rw [if_pos (by decide +kernel)]; kernel_rfl) | (rw [if_neg (by decide +kernel)]; exact ⟨rfl, rfl⟩))
    (fun os started H enc _ F => by rw [OpenClaim.pre_eq_preRow]; exact lifted os started H enc F)
theorem plain (f : FuncId) (fn : Func) (hf : Tryd.pinned.checked.prog.funcNamed "loop.example/g01924/laws.FnExactFormatChain" = some f) (hfn : Tryd.pinned.checked.prog.funcs[f]? = some fn) :
    false = Tryd.pinned.checked.prog.looks [] ∧ ∀ (j : Nat) t, fn.params[j]? = some t → Tryd.pinned.checked.prog.wantsStandIn t = false := by
  obtain rfl : f = 4 := Option.some.inj ((show Tryd.prog.funcNamed "loop.example/g01924/laws.FnExactFormatChain" = some 4 by kernel_rfl).symm.trans hf) |>.symm
  obtain rfl : fn = Tryd.f4 := (Option.some.inj (Tryd.func4.symm.trans hfn)).symm
  refine ⟨by kernel_rfl, fun j t ht => ?_⟩
  rw [Tryd.params4] at ht
  obtain rfl : t = 41 := by simpa using Array.mem_of_getElem? ht
  exact (show Tryd.prog.wantsStandIn 41 = false by kernel_rfl)

/-- THE CARD -/
theorem card : Rows.FnExactFormatChainCardSaid :=
  Claim7.holds_tied_plain_at .later [] _ _ _ _ said (fun _ h => by cases h) (by kernel_rfl) (fun _ h => by cases h) fnExactFormatChain_row_tie rfl ⟨rfl, rfl⟩ (by kernel_rfl) rfl plain (by kernel_rfl)
#print axioms card
end Go.Proofs.YtleeglgjaifejaaDoor.fnExactFormatChain
