/- ParseChain of the program answers as its model at every string: the law returns true and writes nothing that was there; its listed variables are tied to the text of the program. No other condition. -/
import Derived.Test.YtleeglgjaifejaaGreatDoorOpen
import Derived.Test.YtleeglgjaifejaaGreatDoorSParse
import Derived.Test.YtleeglgjaifejaaGreatDoorMark
import Derived.Shelf.Vars
import Derived.WalkKit
import Derived.ProofKit
import Derived.OpenShut
import Derived.ShutString
import Derived.ChangeOld
import Derived.Below
import Derived.Carry
import Derived.Lib.Hide
import Derived.Deep.DeepHandedRow
import Derived.Test.YtleeglgjaifejaaGreatDoorCards
import Derived.Test.YtleeglgjaifejaaGreatDoorTie
namespace Go.Proofs.YtleeglgjaifejaaGreatDoor.fnExactParseChain
open Go.ChangeShapes Go.WideShapes Go.ChangeAt Go.RowKit
open Go.ChangeMaps (open_string shut_string)
open Go.Proofs.YtleeglgjaifejaaGreatDoor.vers Go.Proofs.YtleeglgjaifejaaGreatDoor.sl Go.Proofs.YtleeglgjaifejaaGreatDoor.opn Go.Proofs.YtleeglgjaifejaaGreatDoor.ch Go.Proofs.YtleeglgjaifejaaGreatDoor.tabs Go.Proofs.YtleeglgjaifejaaGreatDoor.text Go.Proofs.YtleeglgjaifejaaGreatDoor.vars Go.Proofs.YtleeglgjaifejaaGreatDoor.parse Go.Proofs.YtleeglgjaifejaaGreatDoor.flat Go.Proofs.YtleeglgjaifejaaGreatDoor.sparse Go.Proofs.YtleeglgjaifejaaGreatDoor.mark
set_option linter.unusedVariables false
open Go.Proofs.YtleeglgjaifejaaGreatDoor.read (Env)
def Facts (W : World) : Prop := Env W
theorem facts {W : World} (h : laidMetH Tryz.prog Rows.fnExactParseChainRow.laid W) (hs : W.ShapedOpen Tryz.prog) : Facts W := ⟨facts7 h, cell_of_shapedOpen_int (g := 0) (t := 3) (zero := #[.int .i64 0]) hs (of_decide_eq_true (by kernel_rfl)) (by kernel_rfl) rfl (by kernel_rfl) (by kernel_rfl) Tryz.underlying3⟩
noncomputable def laidWorld (os : Os) : World := varWorld7 os
theorem own_mr {w : World} {base n : Nat} {v : Value} {l : List Ver} (h : w.ownsRow base 30 5 v n (flat l)) (hl : l.length = n) (hn : 0 < n) :
    ∃ g cap, v = .slice (some ⟨g, 0, none⟩) n cap ∧ base ≤ g ∧ g < w.heap.size ∧ n ≤ cap ∧ MR w g (cap * 5) 0 ∧ Vs w w.heap.size (some ⟨g, 0, none⟩) n l := by
  obtain ⟨A, c, hv, hvs⟩ := own_vs h hl
  rcases h.2 with ⟨_, h0⟩ | ⟨g, cap, cur, hv2, hbg, hgg, hnc, _, hsz, _⟩
  · omega
  · rw [hv2] at hv
    injection hv with e1 e2 e3
    subst e1
    refine ⟨g, cap, hv2, hbg, ?_, hnc, ⟨fun i => cur.getD i undef, ⟨cur, hgg, hsz, fun i hi => ?_⟩, fun i hi => absurd hi (by omega)⟩, hvs⟩
    · rcases Nat.lt_or_ge g w.heap.size with h' | h'
      · exact h'
      · rw [Array.getElem?_eq_none h'] at hgg; cases hgg
    · have hi' : i < cur.size := by omega
      simp [Array.getD, hi']
theorem grown_up {w0 w w' : World} {g : Nat} (h0 : Below w0.heap.size w0 w) (hg : w.grownBy w' (some g)) (hb : w0.heap.size ≤ g) : Below w0.heap.size w0 w' :=
  h0.grown hg h0.size (fun k hk => by injection hk with hk; omega)
set_option maxRecDepth 100000 in
set_option maxHeartbeats 1600000 in
theorem walk (a0 : ByteArray) (w : World) (w0 : a0.size ≤ maxLen) (hF : Facts w) :
    Calls Tryz.prog 4 #[.string a0] w fun e w' => e = .returned (.bool true) ∧ Below w.heap.size w w' := by
  unfold maxLen at w0
  have HE : Hid (Env w) := Lib.hid hF
  clear hF
  by_cases hbig : (1048576 : Int) < (a0.size : Int)
  · go_enter Tryz.func4, Tryz.ntmps4
    go_wp2_with fail
    go_ret
    exact ⟨rfl, Below.refl _ _⟩
  have hs : a0.size ≤ 1048576 := by omega
  by_cases hG : ∃ l, parse.Good a0 l
  · obtain ⟨l, hg⟩ := hG
    have HG := Lib.hid hg
    have hp := Go.Proofs.YtleeglgjaifejaaGreatDoor.find.ch_pos hg.1
    have hl100 := hg.2.1
    obtain ⟨n, hn⟩ : ∃ n, n = l.length := ⟨_, rfl⟩
    rw [← hn] at hp hl100
    have HNL := Lib.hid hn
    clear hg hn
    go_enter Tryz.func4, Tryz.ntmps4
    go_wp2_with fail
    refine (spec_parse a0 hs w).mono ?_
    rintro e W1 (⟨l', v, hg', rfl, hown, hb⟩ | ⟨hno, _⟩)
    case inr => exact absurd HG.out (hno l)
    obtain rfl : l' = l := good_one HG.out hg'
    rw [← HNL.out] at hown
    obtain ⟨A1, c1, rfl, hvs⟩ := own_vs hown HNL.out.symm
    have H1 := Lib.hid hb
    have V1 := Lib.hid hvs
    have HE1 := Lib.hid (HE.out.below hb)
    clear hg' hown hb hvs
    go_wp2_with fail
    refine (impl_parse a0 hs W1 HE1.out).mono ?_
    rintro e W2 (⟨l', v, hg', rfl, hown, hb⟩ | ⟨hno, _⟩)
    case inr => exact absurd HG.out (hno l')
    obtain rfl := good_one HG.out hg'
    rw [← HNL.out] at hown
    obtain ⟨g, cap, rfl, hbg, hgw, hnc, hmr, hvs⟩ := own_mr hown HNL.out.symm hp
    have H2 := Lib.hid hb
    have V2 := Lib.hid hvs
    have M2 := Lib.hid hmr
    have V12 := Lib.hid (V1.out.below hb)
    clear hg' hown hb hvs hmr
    go_wp2_with fail
    refine (same_versions (by omega) V2.out (V12.out.more H2.out.size) (Nat.le_refl _)).mono ?_
    rintro e W3 ⟨rfl, hb⟩
    have M3 := Lib.hid (M2.out.below hb hgw)
    have H3 : Hid (Below W1.heap.size W1 W3) := Lib.hid (H2.out.trans (hb.mono H2.out.size))
    have hgw3 : g < W3.heap.size := M3.out.lt
    clear hb
    obtain ⟨y, hy⟩ : ∃ y : Int, y = ((n * 5 : Nat) : Int) + 1 := ⟨_, rfl⟩
    have y0 : 0 ≤ y := by omega
    have ty : decide (y < 0) = false := decide_eq_false (by omega)
    have HMK : Hid (Calls Tryz.prog 23 #[.slice (some ⟨g, 0, none⟩) n cap, .int .i64 1] W3 fun e w' => e = .returned (.int .i64 y) ∧ MR w' g (cap * 5) n ∧ W3.grownBy w' (some g)) := Lib.hid (by rw [hy]; exact mark_all (by omega) (by omega) M3.out)
    have HHD : Hid (∀ W : World, MR W g (cap * 5) n → Calls Tryz.prog 24 #[.slice (some ⟨g, 0, none⟩) n cap, .int .i64 1] W fun e w' => e = .returned (.int .i64 y) ∧ W = w') := Lib.hid (fun W hW => by rw [hy]; exact held_all (by omega) (by omega) hW)
    clear hy
    go_wp2_with fail
    refine HMK.out.mono ?_
    rintro e W4 ⟨rfl, hmr, hgr⟩
    have M4 := Lib.hid hmr
    have H4 : Hid (Below W1.heap.size W1 W4) := Lib.hid (grown_up H3.out hgr hbg)
    clear hmr hgr
    go_wp2_with fail
    refine (HHD.out W4 M4.out).mono ?_
    rintro e W5 ⟨rfl, rfl⟩
    have hw14 : Below w.heap.size w W4 := H1.out.trans (H4.out.mono H1.out.size)
    have HE4 := Lib.hid (HE.out.below hw14)
    have HW4 := Lib.hid hw14
    clear hw14
    go_wp2_with fail
    refine (impl_parse a0 hs W4 HE4.out).mono ?_
    rintro e W6 (⟨l', v, hg', rfl, hown, hb⟩ | ⟨hno, _⟩)
    case inr => exact absurd HG.out (hno _)
    obtain rfl := good_one HG.out hg'
    rw [← HNL.out] at hown
    obtain ⟨A6, c6, rfl, hvs⟩ := own_vs hown HNL.out.symm
    have V6 := Lib.hid hvs
    have M6 := Lib.hid (M4.out.below hb M4.out.lt)
    have H6 : Hid (Below W1.heap.size W1 W6) := Lib.hid (H4.out.trans (hb.mono H4.out.size))
    have HW6 : Hid (Below w.heap.size w W6) := Lib.hid (HW4.out.trans (hb.mono HW4.out.size))
    have V16 := Lib.hid (V1.out.below H6.out)
    clear hg' hown hb hvs
    go_wp2_with fail
    refine (same_versions (by omega) V6.out (V16.out.more H6.out.size) (Nat.le_refl _)).mono ?_
    rintro e W7 ⟨rfl, hb⟩
    have M7 := Lib.hid (M6.out.below hb M6.out.lt)
    have HW7 : Hid (Below w.heap.size w W7) := Lib.hid (HW6.out.trans (hb.mono HW6.out.size))
    clear hb
    go_wp2_with fail
    refine (HHD.out W7 M7.out).mono ?_
    rintro e W8 ⟨rfl, rfl⟩
    go_wp2_with fail
    go_ret
    exact ⟨rfl, HW7.out⟩
  · have HG := Lib.hid hG
    clear hG
    go_enter Tryz.func4, Tryz.ntmps4
    go_wp2_with fail
    refine (spec_parse a0 hs w).mono ?_
    rintro e W1 (⟨l', v, hg', _⟩ | ⟨hno, ⟨A1, c1, rfl⟩, hb⟩)
    case inl => exact absurd ⟨l', hg'⟩ HG.out
    have H1 := Lib.hid hb
    have HE1 := Lib.hid (HE.out.below hb)
    clear hno hb
    go_wp2_with fail
    refine (impl_parse a0 hs W1 HE1.out).mono ?_
    rintro e W2 (⟨l', v, hg', _⟩ | ⟨hno, rfl, hb⟩)
    case inl => exact absurd ⟨l', hg'⟩ HG.out
    have H2 : Hid (Below w.heap.size w W2) := Lib.hid (H1.out.trans (hb.mono H1.out.size))
    clear hno hb
    go_wp2_with fail
    refine (same_versions (l := []) (by omega) (Vs.nil_ _ _ _) (Vs.nil_ _ _ _) (Nat.le_refl _)).mono ?_
    rintro e W3 ⟨rfl, hb⟩
    have H3 : Hid (Below w.heap.size w W3) := Lib.hid (H2.out.trans (hb.mono H2.out.size))
    have HE3 := Lib.hid (HE.out.below H3.out)
    clear hb
    go_wp2_with fail
    refine (mark_none _ _ W3).mono ?_
    rintro e W4 ⟨rfl, rfl⟩
    go_wp2_with fail
    refine (held_none _ _ W3).mono ?_
    rintro e W4 ⟨rfl, rfl⟩
    go_wp2_with fail
    refine (impl_parse a0 hs W3 HE3.out).mono ?_
    rintro e W4 (⟨l', v, hg', _⟩ | ⟨hno, rfl, hb⟩)
    case inl => exact absurd ⟨l', hg'⟩ HG.out
    have H4 : Hid (Below w.heap.size w W4) := Lib.hid (H3.out.trans (hb.mono H3.out.size))
    clear hno hb
    go_wp2_with fail
    refine (same_versions (l := []) (by omega) (Vs.nil_ _ _ _) (Vs.nil_ _ _ _) (Nat.le_refl _)).mono ?_
    rintro e W5 ⟨rfl, hb⟩
    have H5 : Hid (Below w.heap.size w W5) := Lib.hid (H4.out.trans (hb.mono H4.out.size))
    clear hb
    go_wp2_with fail
    refine (held_none _ _ W5).mono ?_
    rintro e W6 ⟨rfl, rfl⟩
    go_wp2_with fail
    go_ret
    exact ⟨rfl, H5.out⟩
set_option maxRecDepth 100000 in
theorem contract (H : Type) (enc : TypeId × Value → H) (W : World) (base : Nat) (args : Array Value) (ds gs : List (DataW H)) (before : List MemPlace)
    (hval : ∀ (j : Nat) t v, Tryz.f4.params[j]? = some t → args[j]? = some v → Value.okWide Tryz.prog W .any base t v)
    (hW : DataW.Whole enc Tryz.prog Tryz.f4.params.toList Rows.fnExactParseChainSpec.vars false W args.toList ds gs before) (hL : laidMetH Tryz.prog Rows.fnExactParseChainRow.laid W) (hSh : W.ShapedOpen Tryz.prog) :
    Calls Tryz.prog 4 args W fun e W' => ∃ v, e = .returned v ∧ Rows.fnExactParseChainSpec.post enc Tryz.prog Tryz.f4 false true false false W args v W' := by
  have hW' := hW
  obtain ⟨p, q, hA0, hV, rfl, hfz, hnd⟩ := hW
  have hA : DataW.TrodAll enc Tryz.prog W 0 (fun _ => true) true Tryz.f4.params.toList args.toList ds p := hA0
  rw [Tryz.params4] at hA hval
  obtain ⟨v0, vs0, d0, ds0, p0, q0, hargs, rfl, rfl, h0, r0⟩ := trodAll_cons hA
  obtain ⟨rfl, rfl, rfl⟩ := trodAll_nil r0
  obtain rfl : args = #[v0] := by cases args; simp_all
  obtain ⟨rfl, rfl⟩ := trodVars_none hV
  obtain ⟨a0, rfl, rfl, rfl, w0⟩ := open_string Tryz.underlying9 (hval 0 9 v0 rfl rfl) h0
  clear hA0
  refine (walk a0 W w0 (facts hL hSh)).mono fun e W' ⟨he, bel⟩ => ?_
  subst he
  exact ⟨_, rfl, _, _, _, [], _, [], hW', trodAll_mk1 (shut_bool Tryz.underlying4 _), (trodAll_cons_mk (shut_string Tryz.underlying9 w0) trodAll_mk0), rfl, bel.frame _, fun h => by cases h⟩

set_option maxRecDepth 100000 in
theorem laid_met (os : Os) : laidMet Tryz.prog Rows.fnExactParseChainRow.laid ((laidWorld os).forCall (fun _ _ => 0) ⟨#[], #[.string ByteArray.empty], []⟩).memory :=
  laidMet_of_run' 8 (by kernel_rfl) (by kernel_rfl)
set_option maxRecDepth 100000 in
theorem reads (os : Os) {H : Type} (enc : TypeId × Value → H) : ∃ places, DataW.whole enc Tryz.prog ((laidWorld os).forCall (fun _ _ => 0) ⟨#[], #[.string ByteArray.empty], []⟩).memory Tryz.f4.params.toList Rows.fnExactParseChainSpec.vars false (#[(Value.string ByteArray.empty)] : Array Value).toList 8 = some ([.lit (.string [])], [], places) :=
  ⟨[], by kernel_rfl⟩
set_option maxRecDepth 100000 in
theorem lifted (os : Os) (started : os.Started) (H : Type) (enc : TypeId × Value → H) (F : Stop.Interp) :
    ReturnsInHanded {} Tryz.checked os 4 .any ((OpenSpec.ofChange Rows.fnExactParseChainSpec).preRow enc Tryz.prog Tryz.f4 Rows.fnExactParseChainRow.domain false Rows.fnExactParseChainRow.laid) (((OpenSpec.ofChange Rows.fnExactParseChainSpec).at F).post enc Tryz.prog Tryz.f4 false true false false) := by
  obtain ⟨places, hx⟩ := reads os enc
  refine returnsInHanded_of_row (C := Tryz.checked) (s := OpenSpec.ofChange Rows.fnExactParseChainSpec) own started (by kernel_rfl) Tryz.func4
    (witness_row_at (enc := enc) (C := Tryz.checked) false (laidWorld os) #[.string ByteArray.empty] rfl (by kernel_rfl) (by kernel_rfl) (by kernel_rfl)
      (OpenSpec.preRow_of_cond 8 hx (by kernel_rfl) (fun k hk => by cases hk) (by kernel_rfl) (laid_met os))) ?_
  intro W base args ds gs before hval hW _ _ _ hL hSh _
  exact contract H enc W base args ds gs before hval hW hL hSh

theorem said : Rows.FnExactParseChainSaid :=
  OpenClaim.holds_of_cond 4 Tryz.f4 rfl rfl rfl rfl rfl rfl rfl ⟨rfl, rfl, rfl, rfl, rfl⟩ rfl rfl rfl rfl rfl (by kernel_rfl) Tryz.func4 (by kernel_rfl)
    (of_decide_eq_true (by kernel_rfl)) (by unfold Func.isWrapper; first | (rw [if_pos (by decide +kernel)]; kernel_rfl) | (rw [if_neg (by decide +kernel)]; exact ⟨rfl, rfl⟩))
    (fun os started H enc _ F => by rw [OpenClaim.pre_eq_preRow]; exact lifted os started H enc F)
theorem plain (f : FuncId) (fn : Func) (hf : Tryz.pinned.checked.prog.funcNamed "loop.example/g01924/laws.FnExactParseChain" = some f) (hfn : Tryz.pinned.checked.prog.funcs[f]? = some fn) :
    true = Tryz.pinned.checked.prog.looks [] ∧ ∀ (j : Nat) t, fn.params[j]? = some t → Tryz.pinned.checked.prog.wantsStandIn t = false := by
  obtain rfl : f = 4 := Option.some.inj ((show Tryz.prog.funcNamed "loop.example/g01924/laws.FnExactParseChain" = some 4 by kernel_rfl).symm.trans hf) |>.symm
  obtain rfl : fn = Tryz.f4 := (Option.some.inj (Tryz.func4.symm.trans hfn)).symm
  refine ⟨by kernel_rfl, fun j t ht => ?_⟩
  rw [Tryz.params4] at ht
  obtain rfl : t = 9 := by simpa using Array.mem_of_getElem? ht
  exact (show Tryz.prog.wantsStandIn 9 = false by kernel_rfl)

/-- THE CARD -/
theorem card : Rows.FnExactParseChainCardSaid :=
  Claim7.holds_tied_plain_at .later [] _ _ _ _ said (fun _ h => by cases h) (by kernel_rfl) (fun _ h => by cases h) fnExactParseChain_row_tie rfl ⟨rfl, rfl⟩ (by kernel_rfl) rfl plain (by kernel_rfl)
#print axioms card
end Go.Proofs.YtleeglgjaifejaaGreatDoor.fnExactParseChain
