/- FormatOp of the program and of the model: what each answers at six numbers. -/
import Derived.Test.YtjnlbhmddhpmaabDoorSnw
import Derived.Test.YtjnlbhmddhpmaabDoorOvs
import Derived.Test.YtjnlbhmddhpmaabDoorFst
import Derived.WalkKit
import Derived.ProofKit
import Derived.Below
import Derived.Lib.Hide
import Derived.LoopTactic
import Derived.Deep.QuietTactic
import Derived.BigQuiet
import Derived.StillTailTactics
import Derived.Outline
import Derived.IntWalk
import Derived.Deep.RegionHeld3
import Derived.Deep.OwnRows
import Derived.Laws.Entries
namespace Go.Proofs.YtjnlbhmddhpmaabDoor.fop
open Go.ChangeShapes Go.WideShapes Go.ChangeAt Go.RowKit
open Go.Proofs.YtjnlbhmddhpmaabDoor.el6 (E6 boxed atFlat)
open Go.Proofs.YtjnlbhmddhpmaabDoor.ovp (ovX useX impl_op spec_op)

open Go.Proofs.YtjnlbhmddhpmaabDoor.vers (In in_yes in_no in_of in_off new1 new2 new3)
open Go.Proofs.YtjnlbhmddhpmaabDoor.snw (sn ret_s sn_size impl_scheme spec_scheme)
open Go.Proofs.YtjnlbhmddhpmaabDoor.fst (vS vS_size impl_val spec_val Pow app_size)
open Go.Proofs.YtjnlbhmddhpmaabDoor.fmtn Go.Proofs.YtjnlbhmddhpmaabDoor.tabs
open Go.Proofs.YtjnlbhmddhpmaabDoor.fmtInt (spec_fmt impl_fmt)
open Go.Proofs.YtjnlbhmddhpmaabDoor.ch (class_region class_opk class_call)
set_option linter.unusedVariables false
set_option linter.unusedSimpArgs false
abbrev it (n : Int) : ByteArray := S (Lib.itoa n)
/-- an operation's text -/
def foT (x : E6) : ByteArray :=
  if ovX x = false then ⟨#[]⟩ else if x.a = 1 then ((⟨#[98]⟩ ++ it x.b) ++ ⟨#[32]⟩) ++ sn x.c
  else if x.a = 2 then ((⟨#[114]⟩ ++ it x.b) ++ ⟨#[32]⟩) ++ it x.d
  else if x.a = 3 then ((((⟨#[119]⟩ ++ it x.b) ++ ⟨#[32]⟩) ++ it x.d) ++ ⟨#[32]⟩) ++ vS x.f
  else if x.a = 4 then ((((⟨#[115]⟩ ++ it x.b) ++ ⟨#[32]⟩) ++ it x.d) ++ ⟨#[32]⟩) ++ it x.e
  else if x.a = 5 then ⟨#[99]⟩ ++ it x.b else ⟨#[97]⟩ ++ it x.b
theorem fo_no {x : E6} (h : ovX x = false) : foT x = ⟨#[]⟩ := if_pos h
theorem fo_1 {b c d e f : Int} (h : ovX ⟨1, b, c, d, e, f⟩ = true) : foT ⟨1, b, c, d, e, f⟩ = ((⟨#[98]⟩ ++ it b) ++ ⟨#[32]⟩) ++ sn c := by unfold foT; rw [if_neg (by rw [h]; decide)]; rfl
theorem fo_2 {b c d e f : Int} (h : ovX ⟨2, b, c, d, e, f⟩ = true) : foT ⟨2, b, c, d, e, f⟩ = ((⟨#[114]⟩ ++ it b) ++ ⟨#[32]⟩) ++ it d := by unfold foT; rw [if_neg (by rw [h]; decide)]; rfl
theorem fo_3 {b c d e f : Int} (h : ovX ⟨3, b, c, d, e, f⟩ = true) : foT ⟨3, b, c, d, e, f⟩ = ((((⟨#[119]⟩ ++ it b) ++ ⟨#[32]⟩) ++ it d) ++ ⟨#[32]⟩) ++ vS f := by unfold foT; rw [if_neg (by rw [h]; decide)]; rfl
theorem fo_4 {b c d e f : Int} (h : ovX ⟨4, b, c, d, e, f⟩ = true) : foT ⟨4, b, c, d, e, f⟩ = ((((⟨#[115]⟩ ++ it b) ++ ⟨#[32]⟩) ++ it d) ++ ⟨#[32]⟩) ++ it e := by unfold foT; rw [if_neg (by rw [h]; decide)]; rfl
theorem fo_5 {b c d e f : Int} (h : ovX ⟨5, b, c, d, e, f⟩ = true) : foT ⟨5, b, c, d, e, f⟩ = ⟨#[99]⟩ ++ it b := by unfold foT; rw [if_neg (by rw [h]; decide)]; rfl
theorem fo_6 {b c d e f : Int} (h : ovX ⟨6, b, c, d, e, f⟩ = true) : foT ⟨6, b, c, d, e, f⟩ = ⟨#[97]⟩ ++ it b := by unfold foT; rw [if_neg (by rw [h]; decide)]; rfl
theorem ov_rng {a b c d e f : Int} (h : ovX ⟨a, b, c, d, e, f⟩ = true) : (1 ≤ a ∧ a ≤ 6) ∧ (1 ≤ b ∧ b ≤ 9) ∧ (0 ≤ d ∧ d ≤ 5) ∧ (-1 ≤ f ∧ f ≤ 99) ∧ (0 ≤ e ∧ e ≤ 5) := by
  rw [ovp.sp_eq] at h
  simp only [Bool.and_eq_true, Bool.or_eq_true, decide_eq_true_eq, Bool.not_eq_true', decide_eq_false_iff_not] at h
  obtain ⟨⟨⟨⟨⟨⟨h0, h1⟩, h2⟩, h3⟩, h4⟩, h5⟩, h6⟩ := h
  have k1 := in_yes h1
  have k2 := in_yes h2
  have k3 := in_yes h3
  refine ⟨h4, by omega, by omega, by omega, ?_⟩
  rcases h6 with h6 | h6
  · have h7 : (useX ⟨a, b, c, d, e, f⟩).e = e := by rw [h0]
    have h8 : (useX ⟨a, b, c, d, e, f⟩).e = 0 := by
      unfold useX
      by_cases e1 : a = 1
      · simp [e1]
      by_cases e2 : a = 2
      · simp [e2]
      by_cases e3 : a = 3
      · simp [e3]
      simp [e1, e2, e3, h6]
    omega
  · have := in_yes h6
    omega
theorem it_size {n : Int} (h0 : -999 ≤ n) (h1 : n ≤ 999) : (it n).size ≤ 10 := by rw [S_size]; exact Go.Proofs.YtjnlbhmddhpmaabDoor.dig.itoa_len _ (by omega) (by omega)
theorem one_app (x : UInt8) (g : ByteArray) : ((⟨#[x]⟩ : ByteArray) ++ g).size = g.size + 1 := by rw [app_size]; show 1 + _ = _; omega
theorem app_one (x : UInt8) (g : ByteArray) : (g ++ (⟨#[x]⟩ : ByteArray)).size = g.size + 1 := app_size _ _
set_option maxRecDepth 100000 in
set_option maxHeartbeats 6400000 in
theorem spec_fop (x : E6) (w : World) :
    Calls Tryd.prog 14 #[.agg #[.int .i64 x.a, .int .i64 x.b, .int .i64 x.c, .int .i64 x.d, .int .i64 x.e, .int .i64 x.f]] w fun e' w' => e' = .returned (.string (foT x)) ∧ Below w.heap.size w w' := by
  obtain ⟨a, b, c, d, e, f⟩ := x
  dsimp only
  rcases hv : ovX ⟨a, b, c, d, e, f⟩ with _ | _
  · have HE := Lib.hid (fo_no hv)
    have HO : Hid (∀ W : World, Calls Tryd.prog 25 #[.agg #[.int .i64 a, .int .i64 b, .int .i64 c, .int .i64 d, .int .i64 e, .int .i64 f]] W fun e' w' => e' = .returned (.bool false) ∧ Below W.heap.size W w') := Lib.hid fun W => by have := spec_op a b c d e f W; rw [hv] at this; exact this
    clear hv
    have q0 := new1 w (.cells #[.int .i64 a, .int .i64 b, .int .i64 c, .int .i64 d, .int .i64 e, .int .i64 f] 35)
    go_enter Tryd.func14, Tryd.ntmps14
    go_wp2_with fail
    generalize w.alloc (.cells #[.int .i64 a, .int .i64 b, .int .i64 c, .int .i64 d, .int .i64 e, .int .i64 f] 35) = W0 at q0 ⊢
    have HB0 := Lib.hid q0
    clear q0
    refine (HO.out _).mono ?_
    rintro e' W1 ⟨rfl, hb⟩
    have HB1 := Lib.hid (HB0.out.trans (hb.mono HB0.out.size))
    clear hb
    go_wp2_with fail
    go_ret
    exact ⟨ret_s HE.out.symm, HB1.out⟩
  · obtain ⟨ha, hb9, hd5, hf99, he5⟩ := ov_rng hv
    have hk : a = 1 ∨ a = 2 ∨ a = 3 ∨ a = 4 ∨ a = 5 ∨ a = 6 := by omega
    clear ha
    rcases hk with rfl | rfl | rfl | rfl | rfl | rfl
    · obtain ⟨gb, hgb⟩ : ∃ g, it b = g := ⟨_, rfl⟩
      have zb : gb.size ≤ 10 := by rw [← hgb]; exact it_size (by omega) (by omega)
      have CB : Hid (∀ W : World, Calls Tryd.prog 26 #[.int .i64 b] W fun e' w' => e' = .returned (.string gb) ∧ Below W.heap.size W w') := Lib.hid (by rw [← hgb]; exact fun W => spec_fmt b W (by omega) (by omega))
      obtain ⟨gs, hgs⟩ : ∃ g, sn c = g := ⟨_, rfl⟩
      have zs : gs.size ≤ 10 := by rw [← hgs]; exact sn_size _
      have CS : Hid (∀ W : World, Calls Tryd.prog 27 #[.int .i64 c] W fun e' w' => e' = .returned (.string gs) ∧ Below W.heap.size W w') := Lib.hid (by rw [← hgs]; exact fun W => spec_scheme c W)
      have HE : Hid (foT ⟨1, b, c, d, e, f⟩ = ((⟨#[98]⟩ ++ gb) ++ ⟨#[32]⟩) ++ gs) := Lib.hid (by rw [fo_1 hv, hgb, hgs])
      have HO : Hid (∀ W : World, Calls Tryd.prog 25 #[.agg #[.int .i64 1, .int .i64 b, .int .i64 c, .int .i64 d, .int .i64 e, .int .i64 f]] W fun e' w' => e' = .returned (.bool true) ∧ Below W.heap.size W w') := Lib.hid fun W => by have := spec_op 1 b c d e f W; rw [hv] at this; exact this
      clear hv hgb hgs
      have q1 := boxed w ⟨1, b, c, d, e, f⟩ 35
      have q2 : (w.alloc (.cells #[.int .i64 1, .int .i64 b, .int .i64 c, .int .i64 d, .int .i64 e, .int .i64 f] 35)).heap.size = w.heap.size + 1 := by simp
      have q0 := new1 w (.cells #[.int .i64 1, .int .i64 b, .int .i64 c, .int .i64 d, .int .i64 e, .int .i64 f] 35)
      go_enter Tryd.func14, Tryd.ntmps14
      go_wp2_with fail
      generalize w.alloc (.cells #[.int .i64 1, .int .i64 b, .int .i64 c, .int .i64 d, .int .i64 e, .int .i64 f] 35) = W0 at q0 q1 q2 ⊢
      have HB0 := Lib.hid q0
      have Q0 := Lib.hid q1
      clear q0 q1
      refine (HO.out _).mono ?_
      rintro e' W1 ⟨rfl, hb⟩
      have s1 := hb.size
      have HB1 := Lib.hid (HB0.out.trans (hb.mono HB0.out.size))
      have Q1 := Lib.hid (Q0.out.keep (by omega) hb)
      clear hb
      obtain ⟨g0, g1, g2, g3, g4, g5⟩ := atFlat Q1.out
      go_wp2_with fail
      refine (CB.out _).mono ?_
      rintro e' W2 ⟨rfl, hb⟩
      have s2 := hb.size
      have HB2 := Lib.hid (HB1.out.trans (hb.mono HB1.out.size))
      have Q2 := Lib.hid (Q1.out.keep (by omega) hb)
      clear hb
      obtain ⟨g0, g1, g2, g3, g4, g5⟩ := atFlat Q2.out
      have z1 := one_app 98 gb
      have z2 := app_one 32 (⟨#[98]⟩ ++ gb)
      go_wp2_with fail
      refine (CS.out _).mono ?_
      rintro e' W3 ⟨rfl, hb⟩
      have s3 := hb.size
      have HB3 := Lib.hid (HB2.out.trans (hb.mono HB2.out.size))
      have Q3 := Lib.hid (Q2.out.keep (by omega) hb)
      clear hb
      obtain ⟨g0, g1, g2, g3, g4, g5⟩ := atFlat Q3.out
      go_wp2_with fail
      go_ret
      exact ⟨ret_s (by rw [HE.out]; try rfl), HB3.out⟩
    · obtain ⟨gb, hgb⟩ : ∃ g, it b = g := ⟨_, rfl⟩
      have zb : gb.size ≤ 10 := by rw [← hgb]; exact it_size (by omega) (by omega)
      have CB : Hid (∀ W : World, Calls Tryd.prog 26 #[.int .i64 b] W fun e' w' => e' = .returned (.string gb) ∧ Below W.heap.size W w') := Lib.hid (by rw [← hgb]; exact fun W => spec_fmt b W (by omega) (by omega))
      obtain ⟨gd, hgd⟩ : ∃ g, it d = g := ⟨_, rfl⟩
      have zd : gd.size ≤ 10 := by rw [← hgd]; exact it_size (by omega) (by omega)
      have CD : Hid (∀ W : World, Calls Tryd.prog 26 #[.int .i64 d] W fun e' w' => e' = .returned (.string gd) ∧ Below W.heap.size W w') := Lib.hid (by rw [← hgd]; exact fun W => spec_fmt d W (by omega) (by omega))
      have HE : Hid (foT ⟨2, b, c, d, e, f⟩ = ((⟨#[114]⟩ ++ gb) ++ ⟨#[32]⟩) ++ gd) := Lib.hid (by rw [fo_2 hv, hgb, hgd])
      have HO : Hid (∀ W : World, Calls Tryd.prog 25 #[.agg #[.int .i64 2, .int .i64 b, .int .i64 c, .int .i64 d, .int .i64 e, .int .i64 f]] W fun e' w' => e' = .returned (.bool true) ∧ Below W.heap.size W w') := Lib.hid fun W => by have := spec_op 2 b c d e f W; rw [hv] at this; exact this
      clear hv hgb hgd
      have q1 := boxed w ⟨2, b, c, d, e, f⟩ 35
      have q2 : (w.alloc (.cells #[.int .i64 2, .int .i64 b, .int .i64 c, .int .i64 d, .int .i64 e, .int .i64 f] 35)).heap.size = w.heap.size + 1 := by simp
      have q0 := new1 w (.cells #[.int .i64 2, .int .i64 b, .int .i64 c, .int .i64 d, .int .i64 e, .int .i64 f] 35)
      go_enter Tryd.func14, Tryd.ntmps14
      go_wp2_with fail
      generalize w.alloc (.cells #[.int .i64 2, .int .i64 b, .int .i64 c, .int .i64 d, .int .i64 e, .int .i64 f] 35) = W0 at q0 q1 q2 ⊢
      have HB0 := Lib.hid q0
      have Q0 := Lib.hid q1
      clear q0 q1
      refine (HO.out _).mono ?_
      rintro e' W1 ⟨rfl, hb⟩
      have s1 := hb.size
      have HB1 := Lib.hid (HB0.out.trans (hb.mono HB0.out.size))
      have Q1 := Lib.hid (Q0.out.keep (by omega) hb)
      clear hb
      obtain ⟨g0, g1, g2, g3, g4, g5⟩ := atFlat Q1.out
      go_wp2_with fail
      refine (CB.out _).mono ?_
      rintro e' W2 ⟨rfl, hb⟩
      have s2 := hb.size
      have HB2 := Lib.hid (HB1.out.trans (hb.mono HB1.out.size))
      have Q2 := Lib.hid (Q1.out.keep (by omega) hb)
      clear hb
      obtain ⟨g0, g1, g2, g3, g4, g5⟩ := atFlat Q2.out
      have z1 := one_app 114 gb
      have z2 := app_one 32 (⟨#[114]⟩ ++ gb)
      go_wp2_with fail
      refine (CD.out _).mono ?_
      rintro e' W3 ⟨rfl, hb⟩
      have s3 := hb.size
      have HB3 := Lib.hid (HB2.out.trans (hb.mono HB2.out.size))
      have Q3 := Lib.hid (Q2.out.keep (by omega) hb)
      clear hb
      obtain ⟨g0, g1, g2, g3, g4, g5⟩ := atFlat Q3.out
      go_wp2_with fail
      go_ret
      exact ⟨ret_s (by rw [HE.out]; try rfl), HB3.out⟩
    · obtain ⟨gb, hgb⟩ : ∃ g, it b = g := ⟨_, rfl⟩
      have zb : gb.size ≤ 10 := by rw [← hgb]; exact it_size (by omega) (by omega)
      have CB : Hid (∀ W : World, Calls Tryd.prog 26 #[.int .i64 b] W fun e' w' => e' = .returned (.string gb) ∧ Below W.heap.size W w') := Lib.hid (by rw [← hgb]; exact fun W => spec_fmt b W (by omega) (by omega))
      obtain ⟨gd, hgd⟩ : ∃ g, it d = g := ⟨_, rfl⟩
      have zd : gd.size ≤ 10 := by rw [← hgd]; exact it_size (by omega) (by omega)
      have CD : Hid (∀ W : World, Calls Tryd.prog 26 #[.int .i64 d] W fun e' w' => e' = .returned (.string gd) ∧ Below W.heap.size W w') := Lib.hid (by rw [← hgd]; exact fun W => spec_fmt d W (by omega) (by omega))
      obtain ⟨gf, hgf⟩ : ∃ g, vS f = g := ⟨_, rfl⟩
      have zf : gf.size ≤ 10 := by rw [← hgf]; exact vS_size (by omega) (by omega)
      have CF : Hid (∀ W : World, Calls Tryd.prog 28 #[.int .i64 f] W fun e' w' => e' = .returned (.string gf) ∧ Below W.heap.size W w') := Lib.hid (by rw [← hgf]; exact fun W => spec_val f W (by omega) (by omega))
      have HE : Hid (foT ⟨3, b, c, d, e, f⟩ = ((((⟨#[119]⟩ ++ gb) ++ ⟨#[32]⟩) ++ gd) ++ ⟨#[32]⟩) ++ gf) := Lib.hid (by rw [fo_3 hv, hgb, hgd, hgf])
      have HO : Hid (∀ W : World, Calls Tryd.prog 25 #[.agg #[.int .i64 3, .int .i64 b, .int .i64 c, .int .i64 d, .int .i64 e, .int .i64 f]] W fun e' w' => e' = .returned (.bool true) ∧ Below W.heap.size W w') := Lib.hid fun W => by have := spec_op 3 b c d e f W; rw [hv] at this; exact this
      clear hv hgb hgd hgf
      have q1 := boxed w ⟨3, b, c, d, e, f⟩ 35
      have q2 : (w.alloc (.cells #[.int .i64 3, .int .i64 b, .int .i64 c, .int .i64 d, .int .i64 e, .int .i64 f] 35)).heap.size = w.heap.size + 1 := by simp
      have q0 := new1 w (.cells #[.int .i64 3, .int .i64 b, .int .i64 c, .int .i64 d, .int .i64 e, .int .i64 f] 35)
      go_enter Tryd.func14, Tryd.ntmps14
      go_wp2_with fail
      generalize w.alloc (.cells #[.int .i64 3, .int .i64 b, .int .i64 c, .int .i64 d, .int .i64 e, .int .i64 f] 35) = W0 at q0 q1 q2 ⊢
      have HB0 := Lib.hid q0
      have Q0 := Lib.hid q1
      clear q0 q1
      refine (HO.out _).mono ?_
      rintro e' W1 ⟨rfl, hb⟩
      have s1 := hb.size
      have HB1 := Lib.hid (HB0.out.trans (hb.mono HB0.out.size))
      have Q1 := Lib.hid (Q0.out.keep (by omega) hb)
      clear hb
      obtain ⟨g0, g1, g2, g3, g4, g5⟩ := atFlat Q1.out
      go_wp2_with fail
      refine (CB.out _).mono ?_
      rintro e' W2 ⟨rfl, hb⟩
      have s2 := hb.size
      have HB2 := Lib.hid (HB1.out.trans (hb.mono HB1.out.size))
      have Q2 := Lib.hid (Q1.out.keep (by omega) hb)
      clear hb
      obtain ⟨g0, g1, g2, g3, g4, g5⟩ := atFlat Q2.out
      go_wp2_with fail
      have z1 := one_app 119 gb
      have z2 := app_one 32 (⟨#[119]⟩ ++ gb)
      have z3 := app_size ((⟨#[119]⟩ ++ gb) ++ ⟨#[32]⟩) gd
      have z4 := app_one 32 (((⟨#[119]⟩ ++ gb) ++ ⟨#[32]⟩) ++ gd)
      clear g0 g1 g2 g3 g4 g5
      have HB := HB2
      have HQ : Hid (el6.At W2 w.heap.size 0 ⟨3, b, c, d, e, f⟩) := Q2
      have q3 : w.heap.size < W2.heap.size := by omega
      generalize W2 = WQ at HB HQ q3 ⊢
      refine class_region WQ.heap.size (by kernel_rfl) (by kernel_rfl) ?_
      with_reducible refine class_opk (.string gb) ?_ ?_ ?_
      · exact rfl
      · intro W hW
        go_simp
      intro K hK
      go_simp
      with_reducible refine hK _ ?_
      clear hK K
      with_reducible refine class_opk (.string (⟨#[119]⟩ ++ gb)) ?_ ?_ ?_
      · exact rfl
      · intro W hW
        go_simp
        try rw [if_neg (by omega)]
        try exact ⟨rfl, rfl⟩
      intro K hK
      go_simp
      with_reducible refine hK _ ?_
      clear hK K
      with_reducible refine class_opk (.string ((⟨#[119]⟩ ++ gb) ++ ⟨#[32]⟩)) ?_ ?_ ?_
      · exact rfl
      · intro W hW
        go_simp
        try rw [if_neg (by omega)]
        try exact ⟨rfl, rfl⟩
      intro K hK
      go_simp
      with_reducible refine hK _ ?_
      clear hK K
      with_reducible refine class_opk (.pointer (some ⟨w.heap.size, 3, none⟩)) ?_ ?_ ?_
      · exact rfl
      · intro W hW
        go_simp
      intro K hK
      go_simp
      with_reducible refine hK _ ?_
      clear hK K
      with_reducible refine class_opk (.int .i64 d) ?_ ?_ ?_
      · exact rfl
      · intro W hW
        obtain ⟨g0, g1, g2, g3, g4, g5⟩ := atFlat (HQ.out.keep (by omega) hW)
        go_simp
      intro K hK
      go_simp
      with_reducible refine hK _ ?_
      clear hK K
      with_reducible refine class_opk (.string gd) ?_ ?_ ?_
      · exact rfl
      · intro W hW
        go_simp
        refine class_call hW ?_
        exact CD.out W
      intro K hK
      go_simp
      with_reducible refine hK _ ?_
      clear hK K
      with_reducible refine class_opk (.string (((⟨#[119]⟩ ++ gb) ++ ⟨#[32]⟩) ++ gd)) ?_ ?_ ?_
      · exact rfl
      · intro W hW
        go_simp
        try rw [if_neg (by omega)]
        try exact ⟨rfl, rfl⟩
      intro K hK
      go_simp
      with_reducible refine hK _ ?_
      clear hK K
      with_reducible refine class_opk (.string ((((⟨#[119]⟩ ++ gb) ++ ⟨#[32]⟩) ++ gd) ++ ⟨#[32]⟩)) ?_ ?_ ?_
      · exact rfl
      · intro W hW
        go_simp
        try rw [if_neg (by omega)]
        try exact ⟨rfl, rfl⟩
      intro K hK
      go_simp
      with_reducible refine hK _ ?_
      clear hK K
      with_reducible refine class_opk (.pointer (some ⟨w.heap.size, 5, none⟩)) ?_ ?_ ?_
      · exact rfl
      · intro W hW
        go_simp
      intro K hK
      go_simp
      with_reducible refine hK _ ?_
      clear hK K
      with_reducible refine class_opk (.int .i64 f) ?_ ?_ ?_
      · exact rfl
      · intro W hW
        obtain ⟨g0, g1, g2, g3, g4, g5⟩ := atFlat (HQ.out.keep (by omega) hW)
        go_simp
      intro K hK
      go_simp
      with_reducible refine hK _ ?_
      clear hK K
      with_reducible refine class_opk (.string gf) ?_ ?_ ?_
      · exact rfl
      · intro W hW
        go_simp
        refine class_call hW ?_
        exact CF.out W
      intro K hK
      go_simp
      with_reducible refine hK _ ?_
      clear hK K
      with_reducible refine class_opk (.string (((((⟨#[119]⟩ ++ gb) ++ ⟨#[32]⟩) ++ gd) ++ ⟨#[32]⟩) ++ gf)) ?_ ?_ ?_
      · exact rfl
      · intro W hW
        go_simp
        try rw [if_neg (by omega)]
        try exact ⟨rfl, rfl⟩
      intro K hK
      go_simp
      with_reducible refine hK _ ?_
      clear hK K
      with_reducible refine class_opk (.string (((((⟨#[119]⟩ ++ gb) ++ ⟨#[32]⟩) ++ gd) ++ ⟨#[32]⟩) ++ gf)) ?_ ?_ ?_
      · exact rfl
      · intro W hW
        go_simp
      intro K hK
      go_simp
      with_reducible refine hK _ ?_
      clear hK K
      go_simp
      intro W hW
      go_wp2_with fail
      go_ret
      exact ⟨ret_s (by rw [HE.out]), HB.out.trans (hW.mono HB.out.size)⟩
    · obtain ⟨gb, hgb⟩ : ∃ g, it b = g := ⟨_, rfl⟩
      have zb : gb.size ≤ 10 := by rw [← hgb]; exact it_size (by omega) (by omega)
      have CB : Hid (∀ W : World, Calls Tryd.prog 26 #[.int .i64 b] W fun e' w' => e' = .returned (.string gb) ∧ Below W.heap.size W w') := Lib.hid (by rw [← hgb]; exact fun W => spec_fmt b W (by omega) (by omega))
      obtain ⟨gd, hgd⟩ : ∃ g, it d = g := ⟨_, rfl⟩
      have zd : gd.size ≤ 10 := by rw [← hgd]; exact it_size (by omega) (by omega)
      have CD : Hid (∀ W : World, Calls Tryd.prog 26 #[.int .i64 d] W fun e' w' => e' = .returned (.string gd) ∧ Below W.heap.size W w') := Lib.hid (by rw [← hgd]; exact fun W => spec_fmt d W (by omega) (by omega))
      obtain ⟨ge, hge⟩ : ∃ g, it e = g := ⟨_, rfl⟩
      have ze : ge.size ≤ 10 := by rw [← hge]; exact it_size (by omega) (by omega)
      have CE : Hid (∀ W : World, Calls Tryd.prog 26 #[.int .i64 e] W fun e' w' => e' = .returned (.string ge) ∧ Below W.heap.size W w') := Lib.hid (by rw [← hge]; exact fun W => spec_fmt e W (by omega) (by omega))
      have HE : Hid (foT ⟨4, b, c, d, e, f⟩ = ((((⟨#[115]⟩ ++ gb) ++ ⟨#[32]⟩) ++ gd) ++ ⟨#[32]⟩) ++ ge) := Lib.hid (by rw [fo_4 hv, hgb, hgd, hge])
      have HO : Hid (∀ W : World, Calls Tryd.prog 25 #[.agg #[.int .i64 4, .int .i64 b, .int .i64 c, .int .i64 d, .int .i64 e, .int .i64 f]] W fun e' w' => e' = .returned (.bool true) ∧ Below W.heap.size W w') := Lib.hid fun W => by have := spec_op 4 b c d e f W; rw [hv] at this; exact this
      clear hv hgb hgd hge
      have q1 := boxed w ⟨4, b, c, d, e, f⟩ 35
      have q2 : (w.alloc (.cells #[.int .i64 4, .int .i64 b, .int .i64 c, .int .i64 d, .int .i64 e, .int .i64 f] 35)).heap.size = w.heap.size + 1 := by simp
      have q0 := new1 w (.cells #[.int .i64 4, .int .i64 b, .int .i64 c, .int .i64 d, .int .i64 e, .int .i64 f] 35)
      go_enter Tryd.func14, Tryd.ntmps14
      go_wp2_with fail
      generalize w.alloc (.cells #[.int .i64 4, .int .i64 b, .int .i64 c, .int .i64 d, .int .i64 e, .int .i64 f] 35) = W0 at q0 q1 q2 ⊢
      have HB0 := Lib.hid q0
      have Q0 := Lib.hid q1
      clear q0 q1
      refine (HO.out _).mono ?_
      rintro e' W1 ⟨rfl, hb⟩
      have s1 := hb.size
      have HB1 := Lib.hid (HB0.out.trans (hb.mono HB0.out.size))
      have Q1 := Lib.hid (Q0.out.keep (by omega) hb)
      clear hb
      obtain ⟨g0, g1, g2, g3, g4, g5⟩ := atFlat Q1.out
      go_wp2_with fail
      refine (CB.out _).mono ?_
      rintro e' W2 ⟨rfl, hb⟩
      have s2 := hb.size
      have HB2 := Lib.hid (HB1.out.trans (hb.mono HB1.out.size))
      have Q2 := Lib.hid (Q1.out.keep (by omega) hb)
      clear hb
      obtain ⟨g0, g1, g2, g3, g4, g5⟩ := atFlat Q2.out
      go_wp2_with fail
      have z1 := one_app 115 gb
      have z2 := app_one 32 (⟨#[115]⟩ ++ gb)
      have z3 := app_size ((⟨#[115]⟩ ++ gb) ++ ⟨#[32]⟩) gd
      have z4 := app_one 32 (((⟨#[115]⟩ ++ gb) ++ ⟨#[32]⟩) ++ gd)
      clear g0 g1 g2 g3 g4 g5
      have HB := HB2
      have HQ : Hid (el6.At W2 w.heap.size 0 ⟨4, b, c, d, e, f⟩) := Q2
      have q3 : w.heap.size < W2.heap.size := by omega
      generalize W2 = WQ at HB HQ q3 ⊢
      refine class_region WQ.heap.size (by kernel_rfl) (by kernel_rfl) ?_
      with_reducible refine class_opk (.string gb) ?_ ?_ ?_
      · exact rfl
      · intro W hW
        go_simp
      intro K hK
      go_simp
      with_reducible refine hK _ ?_
      clear hK K
      with_reducible refine class_opk (.string (⟨#[115]⟩ ++ gb)) ?_ ?_ ?_
      · exact rfl
      · intro W hW
        go_simp
        try rw [if_neg (by omega)]
        try exact ⟨rfl, rfl⟩
      intro K hK
      go_simp
      with_reducible refine hK _ ?_
      clear hK K
      with_reducible refine class_opk (.string ((⟨#[115]⟩ ++ gb) ++ ⟨#[32]⟩)) ?_ ?_ ?_
      · exact rfl
      · intro W hW
        go_simp
        try rw [if_neg (by omega)]
        try exact ⟨rfl, rfl⟩
      intro K hK
      go_simp
      with_reducible refine hK _ ?_
      clear hK K
      with_reducible refine class_opk (.pointer (some ⟨w.heap.size, 3, none⟩)) ?_ ?_ ?_
      · exact rfl
      · intro W hW
        go_simp
      intro K hK
      go_simp
      with_reducible refine hK _ ?_
      clear hK K
      with_reducible refine class_opk (.int .i64 d) ?_ ?_ ?_
      · exact rfl
      · intro W hW
        obtain ⟨g0, g1, g2, g3, g4, g5⟩ := atFlat (HQ.out.keep (by omega) hW)
        go_simp
      intro K hK
      go_simp
      with_reducible refine hK _ ?_
      clear hK K
      with_reducible refine class_opk (.string gd) ?_ ?_ ?_
      · exact rfl
      · intro W hW
        go_simp
        refine class_call hW ?_
        exact CD.out W
      intro K hK
      go_simp
      with_reducible refine hK _ ?_
      clear hK K
      with_reducible refine class_opk (.string (((⟨#[115]⟩ ++ gb) ++ ⟨#[32]⟩) ++ gd)) ?_ ?_ ?_
      · exact rfl
      · intro W hW
        go_simp
        try rw [if_neg (by omega)]
        try exact ⟨rfl, rfl⟩
      intro K hK
      go_simp
      with_reducible refine hK _ ?_
      clear hK K
      with_reducible refine class_opk (.string ((((⟨#[115]⟩ ++ gb) ++ ⟨#[32]⟩) ++ gd) ++ ⟨#[32]⟩)) ?_ ?_ ?_
      · exact rfl
      · intro W hW
        go_simp
        try rw [if_neg (by omega)]
        try exact ⟨rfl, rfl⟩
      intro K hK
      go_simp
      with_reducible refine hK _ ?_
      clear hK K
      with_reducible refine class_opk (.pointer (some ⟨w.heap.size, 4, none⟩)) ?_ ?_ ?_
      · exact rfl
      · intro W hW
        go_simp
      intro K hK
      go_simp
      with_reducible refine hK _ ?_
      clear hK K
      with_reducible refine class_opk (.int .i64 e) ?_ ?_ ?_
      · exact rfl
      · intro W hW
        obtain ⟨g0, g1, g2, g3, g4, g5⟩ := atFlat (HQ.out.keep (by omega) hW)
        go_simp
      intro K hK
      go_simp
      with_reducible refine hK _ ?_
      clear hK K
      with_reducible refine class_opk (.string ge) ?_ ?_ ?_
      · exact rfl
      · intro W hW
        go_simp
        refine class_call hW ?_
        exact CE.out W
      intro K hK
      go_simp
      with_reducible refine hK _ ?_
      clear hK K
      with_reducible refine class_opk (.string (((((⟨#[115]⟩ ++ gb) ++ ⟨#[32]⟩) ++ gd) ++ ⟨#[32]⟩) ++ ge)) ?_ ?_ ?_
      · exact rfl
      · intro W hW
        go_simp
        try rw [if_neg (by omega)]
        try exact ⟨rfl, rfl⟩
      intro K hK
      go_simp
      with_reducible refine hK _ ?_
      clear hK K
      with_reducible refine class_opk (.string (((((⟨#[115]⟩ ++ gb) ++ ⟨#[32]⟩) ++ gd) ++ ⟨#[32]⟩) ++ ge)) ?_ ?_ ?_
      · exact rfl
      · intro W hW
        go_simp
      intro K hK
      go_simp
      with_reducible refine hK _ ?_
      clear hK K
      go_simp
      intro W hW
      go_wp2_with fail
      go_ret
      exact ⟨ret_s (by rw [HE.out]), HB.out.trans (hW.mono HB.out.size)⟩
    · obtain ⟨gb, hgb⟩ : ∃ g, it b = g := ⟨_, rfl⟩
      have zb : gb.size ≤ 10 := by rw [← hgb]; exact it_size (by omega) (by omega)
      have CB : Hid (∀ W : World, Calls Tryd.prog 26 #[.int .i64 b] W fun e' w' => e' = .returned (.string gb) ∧ Below W.heap.size W w') := Lib.hid (by rw [← hgb]; exact fun W => spec_fmt b W (by omega) (by omega))
      have HE : Hid (foT ⟨5, b, c, d, e, f⟩ = ⟨#[99]⟩ ++ gb) := Lib.hid (by rw [fo_5 hv, hgb])
      have HO : Hid (∀ W : World, Calls Tryd.prog 25 #[.agg #[.int .i64 5, .int .i64 b, .int .i64 c, .int .i64 d, .int .i64 e, .int .i64 f]] W fun e' w' => e' = .returned (.bool true) ∧ Below W.heap.size W w') := Lib.hid fun W => by have := spec_op 5 b c d e f W; rw [hv] at this; exact this
      clear hv hgb
      have q1 := boxed w ⟨5, b, c, d, e, f⟩ 35
      have q2 : (w.alloc (.cells #[.int .i64 5, .int .i64 b, .int .i64 c, .int .i64 d, .int .i64 e, .int .i64 f] 35)).heap.size = w.heap.size + 1 := by simp
      have q0 := new1 w (.cells #[.int .i64 5, .int .i64 b, .int .i64 c, .int .i64 d, .int .i64 e, .int .i64 f] 35)
      go_enter Tryd.func14, Tryd.ntmps14
      go_wp2_with fail
      generalize w.alloc (.cells #[.int .i64 5, .int .i64 b, .int .i64 c, .int .i64 d, .int .i64 e, .int .i64 f] 35) = W0 at q0 q1 q2 ⊢
      have HB0 := Lib.hid q0
      have Q0 := Lib.hid q1
      clear q0 q1
      refine (HO.out _).mono ?_
      rintro e' W1 ⟨rfl, hb⟩
      have s1 := hb.size
      have HB1 := Lib.hid (HB0.out.trans (hb.mono HB0.out.size))
      have Q1 := Lib.hid (Q0.out.keep (by omega) hb)
      clear hb
      obtain ⟨g0, g1, g2, g3, g4, g5⟩ := atFlat Q1.out
      go_wp2_with fail
      refine (CB.out _).mono ?_
      rintro e' W2 ⟨rfl, hb⟩
      have s2 := hb.size
      have HB2 := Lib.hid (HB1.out.trans (hb.mono HB1.out.size))
      have Q2 := Lib.hid (Q1.out.keep (by omega) hb)
      clear hb
      obtain ⟨g0, g1, g2, g3, g4, g5⟩ := atFlat Q2.out
      go_wp2_with fail
      go_ret
      exact ⟨ret_s (by rw [HE.out]; try rfl), HB2.out⟩
    · obtain ⟨gb, hgb⟩ : ∃ g, it b = g := ⟨_, rfl⟩
      have zb : gb.size ≤ 10 := by rw [← hgb]; exact it_size (by omega) (by omega)
      have CB : Hid (∀ W : World, Calls Tryd.prog 26 #[.int .i64 b] W fun e' w' => e' = .returned (.string gb) ∧ Below W.heap.size W w') := Lib.hid (by rw [← hgb]; exact fun W => spec_fmt b W (by omega) (by omega))
      have HE : Hid (foT ⟨6, b, c, d, e, f⟩ = ⟨#[97]⟩ ++ gb) := Lib.hid (by rw [fo_6 hv, hgb])
      have HO : Hid (∀ W : World, Calls Tryd.prog 25 #[.agg #[.int .i64 6, .int .i64 b, .int .i64 c, .int .i64 d, .int .i64 e, .int .i64 f]] W fun e' w' => e' = .returned (.bool true) ∧ Below W.heap.size W w') := Lib.hid fun W => by have := spec_op 6 b c d e f W; rw [hv] at this; exact this
      clear hv hgb
      have q1 := boxed w ⟨6, b, c, d, e, f⟩ 35
      have q2 : (w.alloc (.cells #[.int .i64 6, .int .i64 b, .int .i64 c, .int .i64 d, .int .i64 e, .int .i64 f] 35)).heap.size = w.heap.size + 1 := by simp
      have q0 := new1 w (.cells #[.int .i64 6, .int .i64 b, .int .i64 c, .int .i64 d, .int .i64 e, .int .i64 f] 35)
      go_enter Tryd.func14, Tryd.ntmps14
      go_wp2_with fail
      generalize w.alloc (.cells #[.int .i64 6, .int .i64 b, .int .i64 c, .int .i64 d, .int .i64 e, .int .i64 f] 35) = W0 at q0 q1 q2 ⊢
      have HB0 := Lib.hid q0
      have Q0 := Lib.hid q1
      clear q0 q1
      refine (HO.out _).mono ?_
      rintro e' W1 ⟨rfl, hb⟩
      have s1 := hb.size
      have HB1 := Lib.hid (HB0.out.trans (hb.mono HB0.out.size))
      have Q1 := Lib.hid (Q0.out.keep (by omega) hb)
      clear hb
      obtain ⟨g0, g1, g2, g3, g4, g5⟩ := atFlat Q1.out
      go_wp2_with fail
      refine (CB.out _).mono ?_
      rintro e' W2 ⟨rfl, hb⟩
      have s2 := hb.size
      have HB2 := Lib.hid (HB1.out.trans (hb.mono HB1.out.size))
      have Q2 := Lib.hid (Q1.out.keep (by omega) hb)
      clear hb
      obtain ⟨g0, g1, g2, g3, g4, g5⟩ := atFlat Q2.out
      go_wp2_with fail
      go_ret
      exact ⟨ret_s (by rw [HE.out]; try rfl), HB2.out⟩
theorem impl_akt (a b c d e f : Int) (g : ByteArray) (w : World) (htab : Pow w) (he : 0 ≤ e ∧ e ≤ 5) (hf : -1 ≤ f ∧ f ≤ 99) (hg : (if a = 4 then it e else vS f) = g) :
    Calls Tryd.prog 34 #[.agg #[.int .i64 a, .int .i64 b, .int .i64 c, .int .i64 d, .int .i64 e, .int .i64 f]] w fun e' w' => e' = .returned (.string g) ∧ Below w.heap.size w w' := by
  have q0 := new1 w (.cells #[.int .i64 a, .int .i64 b, .int .i64 c, .int .i64 d, .int .i64 e, .int .i64 f] 35)
  have q1 := boxed w ⟨a, b, c, d, e, f⟩ 35
  by_cases ha : a = 4
  · have CE : Hid (∀ W : World, Pow W → Calls Tryd.prog 35 #[.int .i64 e] W fun e' w' => e' = .returned (.string g) ∧ Below W.heap.size W w') := Lib.hid (by rw [← hg, if_pos ha]; exact fun W ht => impl_fmt e W (by omega) (by omega) ht)
    have t : (a == 4) = true := by simpa using ha
    have HT := Lib.hid htab
    clear ha hg htab
    go_enter Tryd.func34, Tryd.ntmps34
    go_wp2_with fail
    generalize w.alloc _ = W0 at q0 q1 ⊢
    obtain ⟨g0, g1, g2, g3, g4, g5⟩ := atFlat q1
    have HB0 := Lib.hid q0
    clear q0 q1
    go_wp2_with fail
    refine (CE.out _ (powTab_below HT.out HB0.out)).mono ?_
    rintro e' W1 ⟨rfl, hb⟩
    have HB1 := Lib.hid (HB0.out.trans (hb.mono HB0.out.size))
    clear hb
    go_wp2_with fail
    go_ret
    exact ⟨rfl, HB1.out⟩
  · have CE : Hid (∀ W : World, Pow W → Calls Tryd.prog 47 #[.int .i64 f] W fun e' w' => e' = .returned (.string g) ∧ Below W.heap.size W w') := Lib.hid (by rw [← hg, if_neg ha]; exact fun W ht => impl_val f W (by omega) (by omega) ht)
    have t : (a == 4) = false := by simpa using ha
    have HT := Lib.hid htab
    clear ha hg htab
    go_enter Tryd.func34, Tryd.ntmps34
    go_wp2_with fail
    generalize w.alloc _ = W0 at q0 q1 ⊢
    obtain ⟨g0, g1, g2, g3, g4, g5⟩ := atFlat q1
    have HB0 := Lib.hid q0
    clear q0 q1
    go_wp2_with fail
    refine (CE.out _ (powTab_below HT.out HB0.out)).mono ?_
    rintro e' W1 ⟨rfl, hb⟩
    have HB1 := Lib.hid (HB0.out.trans (hb.mono HB0.out.size))
    clear hb
    go_wp2_with fail
    go_ret
    exact ⟨rfl, HB1.out⟩
set_option maxRecDepth 100000 in
set_option maxHeartbeats 6400000 in
theorem impl_fop (x : E6) (w : World) (htab : Pow w) :
    Calls Tryd.prog 17 #[.agg #[.int .i64 x.a, .int .i64 x.b, .int .i64 x.c, .int .i64 x.d, .int .i64 x.e, .int .i64 x.f]] w fun e' w' => e' = .returned (.string (foT x)) ∧ Below w.heap.size w w' := by
  obtain ⟨a, b, c, d, e, f⟩ := x
  dsimp only
  rcases hv : ovX ⟨a, b, c, d, e, f⟩ with _ | _
  · have HE := Lib.hid (fo_no hv)
    have HO : Hid (∀ W : World, Calls Tryd.prog 16 #[.agg #[.int .i64 a, .int .i64 b, .int .i64 c, .int .i64 d, .int .i64 e, .int .i64 f]] W fun e' w' => e' = .returned (.bool false) ∧ Below W.heap.size W w') := Lib.hid fun W => by have := impl_op a b c d e f W; rw [hv] at this; exact this
    clear hv htab
    have q0 := new1 w (.cells #[.int .i64 a, .int .i64 b, .int .i64 c, .int .i64 d, .int .i64 e, .int .i64 f] 35)
    go_enter Tryd.func17, Tryd.ntmps17
    go_wp2_with fail
    generalize w.alloc (.cells #[.int .i64 a, .int .i64 b, .int .i64 c, .int .i64 d, .int .i64 e, .int .i64 f] 35) = W0 at q0 ⊢
    have HB0 := Lib.hid q0
    clear q0
    refine (HO.out _).mono ?_
    rintro e' W1 ⟨rfl, hb⟩
    have HB1 := Lib.hid (HB0.out.trans (hb.mono HB0.out.size))
    clear hb
    go_wp2_with fail
    go_ret
    exact ⟨ret_s HE.out.symm, HB1.out⟩
  · have HT := Lib.hid htab
    clear htab
    obtain ⟨ha, hb9, hd5, hf99, he5⟩ := ov_rng hv
    have hk : a = 1 ∨ a = 2 ∨ a = 3 ∨ a = 4 ∨ a = 5 ∨ a = 6 := by omega
    clear ha
    rcases hk with rfl | rfl | rfl | rfl | rfl | rfl
    · obtain ⟨gb, hgb⟩ : ∃ g, it b = g := ⟨_, rfl⟩
      have zb : gb.size ≤ 10 := by rw [← hgb]; exact it_size (by omega) (by omega)
      have CB : Hid (∀ W : World, Pow W → Calls Tryd.prog 35 #[.int .i64 b] W fun e' w' => e' = .returned (.string gb) ∧ Below W.heap.size W w') := Lib.hid (by rw [← hgb]; exact fun W ht => impl_fmt b W (by omega) (by omega) ht)
      obtain ⟨gs, hgs⟩ : ∃ g, sn c = g := ⟨_, rfl⟩
      have zs : gs.size ≤ 10 := by rw [← hgs]; exact sn_size _
      have CS : Hid (∀ W : World, Calls Tryd.prog 33 #[.int .i64 c] W fun e' w' => e' = .returned (.string gs) ∧ Below W.heap.size W w') := Lib.hid (by rw [← hgs]; exact fun W => impl_scheme c W)
      have HE : Hid (foT ⟨1, b, c, d, e, f⟩ = ((⟨#[98]⟩ ++ gb) ++ ⟨#[32]⟩) ++ gs) := Lib.hid (by rw [fo_1 hv, hgb, hgs])
      have HO : Hid (∀ W : World, Calls Tryd.prog 16 #[.agg #[.int .i64 1, .int .i64 b, .int .i64 c, .int .i64 d, .int .i64 e, .int .i64 f]] W fun e' w' => e' = .returned (.bool true) ∧ Below W.heap.size W w') := Lib.hid fun W => by have := impl_op 1 b c d e f W; rw [hv] at this; exact this
      clear hv hgb hgs
      have q1 := boxed w ⟨1, b, c, d, e, f⟩ 35
      have q2 : (w.alloc (.cells #[.int .i64 1, .int .i64 b, .int .i64 c, .int .i64 d, .int .i64 e, .int .i64 f] 35)).heap.size = w.heap.size + 1 := by simp
      have q0 := new1 w (.cells #[.int .i64 1, .int .i64 b, .int .i64 c, .int .i64 d, .int .i64 e, .int .i64 f] 35)
      go_enter Tryd.func17, Tryd.ntmps17
      go_wp2_with fail
      generalize w.alloc (.cells #[.int .i64 1, .int .i64 b, .int .i64 c, .int .i64 d, .int .i64 e, .int .i64 f] 35) = W0 at q0 q1 q2 ⊢
      have HB0 := Lib.hid q0
      have Q0 := Lib.hid q1
      clear q0 q1
      refine (HO.out _).mono ?_
      rintro e' W1 ⟨rfl, hb⟩
      have s1 := hb.size
      have HB1 := Lib.hid (HB0.out.trans (hb.mono HB0.out.size))
      have Q1 := Lib.hid (Q0.out.keep (by omega) hb)
      clear hb
      obtain ⟨g0, g1, g2, g3, g4, g5⟩ := atFlat Q1.out
      have z32 : (⟨#[32]⟩ : ByteArray).size = 1 := rfl
      have zL : (⟨#[98]⟩ : ByteArray).size = 1 := rfl
      have z0 : (⟨#[]⟩ : ByteArray).size = 0 := rfl
      have zF : (⟨#[32]⟩ ++ gs : ByteArray).size ≤ 30 := by (try simp only [app_size]); omega
      have zG := one_app 98 gb
      have zD := one_app 32 gs
      have HA : Hid ((⟨#[98]⟩ ++ gb) ++ (⟨#[32]⟩ ++ gs) = ((⟨#[98]⟩ ++ gb) ++ ⟨#[32]⟩) ++ gs) := Lib.hid (by apply ByteArray.ext; simp [ByteArray.data_append, Array.append_assoc])
      go_wp2_with fail
      refine (CS.out _).mono ?_
      rintro e' W2 ⟨rfl, hb⟩
      have s2 := hb.size
      have HB2 := Lib.hid (HB1.out.trans (hb.mono HB1.out.size))
      have Q2 := Lib.hid (Q1.out.keep (by omega) hb)
      clear hb
      obtain ⟨g0, g1, g2, g3, g4, g5⟩ := atFlat Q2.out
      go_wp2_with fail
      clear g0 g1 g2 g3 g4 g5
      have HB := HB2
      have HQ : Hid (el6.At W2 w.heap.size 0 ⟨1, b, c, d, e, f⟩) := Q2
      have q3 : w.heap.size < W2.heap.size := by omega
      have HP := Lib.hid (powTab_below HT.out HB2.out)
      generalize W2 = WQ at HB HQ q3 HP ⊢
      refine class_region WQ.heap.size (by kernel_rfl) (by kernel_rfl) ?_
      with_reducible refine class_opk (.pointer (some ⟨w.heap.size, 0, none⟩)) ?_ ?_ ?_
      · exact rfl
      · intro W hW
        go_simp
      intro K hK
      go_simp
      with_reducible refine hK _ ?_
      clear hK K
      with_reducible refine class_opk (.int .i64 1) ?_ ?_ ?_
      · exact rfl
      · intro W hW
        obtain ⟨g0, g1, g2, g3, g4, g5⟩ := atFlat (HQ.out.keep (by omega) hW)
        go_simp
      intro K hK
      go_simp
      with_reducible refine hK _ ?_
      clear hK K
      with_reducible refine class_opk (.int .i64 0) ?_ ?_ ?_
      · exact rfl
      · intro W hW
        go_simp
        try rfl
      intro K hK
      go_simp
      with_reducible refine hK _ ?_
      clear hK K
      with_reducible refine class_opk (.int .u8 98) ?_ ?_ ?_
      · exact rfl
      · intro W hW
        go_simp
        first | rfl | exact ⟨rfl, rfl⟩ | decide
      intro K hK
      go_simp
      with_reducible refine hK _ ?_
      clear hK K
      with_reducible refine class_opk (.string ⟨#[98]⟩) ?_ ?_ ?_
      · exact rfl
      · intro W hW
        go_simp
        first | kernel_rfl | rfl | decide
      intro K hK
      go_simp
      with_reducible refine hK _ ?_
      clear hK K
      with_reducible refine class_opk (.pointer (some ⟨w.heap.size, 1, none⟩)) ?_ ?_ ?_
      · exact rfl
      · intro W hW
        go_simp
      intro K hK
      go_simp
      with_reducible refine hK _ ?_
      clear hK K
      with_reducible refine class_opk (.int .i64 b) ?_ ?_ ?_
      · exact rfl
      · intro W hW
        obtain ⟨g0, g1, g2, g3, g4, g5⟩ := atFlat (HQ.out.keep (by omega) hW)
        go_simp
      intro K hK
      go_simp
      with_reducible refine hK _ ?_
      clear hK K
      with_reducible refine class_opk (.string gb) ?_ ?_ ?_
      · exact rfl
      · intro W hW
        go_simp
        refine class_call hW ?_
        exact CB.out W (powTab_below HP.out hW)
      intro K hK
      go_simp
      with_reducible refine hK _ ?_
      clear hK K
      with_reducible refine class_opk (.string (⟨#[98]⟩ ++ gb)) ?_ ?_ ?_
      · exact rfl
      · intro W hW
        go_simp
        try rw [if_neg (by omega)]
        try exact ⟨rfl, rfl⟩
      intro K hK
      go_simp
      with_reducible refine hK _ ?_
      clear hK K
      with_reducible refine class_opk (.string (⟨#[32]⟩ ++ gs)) ?_ ?_ ?_
      · exact rfl
      · intro W hW
        go_simp
      intro K hK
      go_simp
      with_reducible refine hK _ ?_
      clear hK K
      with_reducible refine class_opk (.string ((⟨#[98]⟩ ++ gb) ++ (⟨#[32]⟩ ++ gs))) ?_ ?_ ?_
      · exact rfl
      · intro W hW
        go_simp
        try rw [if_neg (by omega)]
        try exact ⟨rfl, rfl⟩
      intro K hK
      go_simp
      with_reducible refine hK _ ?_
      clear hK K
      with_reducible refine class_opk (.string ((⟨#[98]⟩ ++ gb) ++ (⟨#[32]⟩ ++ gs))) ?_ ?_ ?_
      · exact rfl
      · intro W hW
        go_simp
      intro K hK
      go_simp
      with_reducible refine hK _ ?_
      clear hK K
      go_simp
      intro W hW
      go_wp2_with fail
      go_ret
      exact ⟨ret_s (by rw [HE.out]; exact HA.out), HB.out.trans (hW.mono HB.out.size)⟩
    · obtain ⟨gb, hgb⟩ : ∃ g, it b = g := ⟨_, rfl⟩
      have zb : gb.size ≤ 10 := by rw [← hgb]; exact it_size (by omega) (by omega)
      have CB : Hid (∀ W : World, Pow W → Calls Tryd.prog 35 #[.int .i64 b] W fun e' w' => e' = .returned (.string gb) ∧ Below W.heap.size W w') := Lib.hid (by rw [← hgb]; exact fun W ht => impl_fmt b W (by omega) (by omega) ht)
      obtain ⟨gd, hgd⟩ : ∃ g, it d = g := ⟨_, rfl⟩
      have zd : gd.size ≤ 10 := by rw [← hgd]; exact it_size (by omega) (by omega)
      have CD : Hid (∀ W : World, Pow W → Calls Tryd.prog 35 #[.int .i64 d] W fun e' w' => e' = .returned (.string gd) ∧ Below W.heap.size W w') := Lib.hid (by rw [← hgd]; exact fun W ht => impl_fmt d W (by omega) (by omega) ht)
      have HE : Hid (foT ⟨2, b, c, d, e, f⟩ = ((⟨#[114]⟩ ++ gb) ++ ⟨#[32]⟩) ++ gd) := Lib.hid (by rw [fo_2 hv, hgb, hgd])
      have HO : Hid (∀ W : World, Calls Tryd.prog 16 #[.agg #[.int .i64 2, .int .i64 b, .int .i64 c, .int .i64 d, .int .i64 e, .int .i64 f]] W fun e' w' => e' = .returned (.bool true) ∧ Below W.heap.size W w') := Lib.hid fun W => by have := impl_op 2 b c d e f W; rw [hv] at this; exact this
      clear hv hgb hgd
      have q1 := boxed w ⟨2, b, c, d, e, f⟩ 35
      have q2 : (w.alloc (.cells #[.int .i64 2, .int .i64 b, .int .i64 c, .int .i64 d, .int .i64 e, .int .i64 f] 35)).heap.size = w.heap.size + 1 := by simp
      have q0 := new1 w (.cells #[.int .i64 2, .int .i64 b, .int .i64 c, .int .i64 d, .int .i64 e, .int .i64 f] 35)
      go_enter Tryd.func17, Tryd.ntmps17
      go_wp2_with fail
      generalize w.alloc (.cells #[.int .i64 2, .int .i64 b, .int .i64 c, .int .i64 d, .int .i64 e, .int .i64 f] 35) = W0 at q0 q1 q2 ⊢
      have HB0 := Lib.hid q0
      have Q0 := Lib.hid q1
      clear q0 q1
      refine (HO.out _).mono ?_
      rintro e' W1 ⟨rfl, hb⟩
      have s1 := hb.size
      have HB1 := Lib.hid (HB0.out.trans (hb.mono HB0.out.size))
      have Q1 := Lib.hid (Q0.out.keep (by omega) hb)
      clear hb
      obtain ⟨g0, g1, g2, g3, g4, g5⟩ := atFlat Q1.out
      have z32 : (⟨#[32]⟩ : ByteArray).size = 1 := rfl
      have zL : (⟨#[114]⟩ : ByteArray).size = 1 := rfl
      have z0 : (⟨#[]⟩ : ByteArray).size = 0 := rfl
      have zF : ((⟨#[32]⟩ ++ gd) ++ ⟨#[]⟩ : ByteArray).size ≤ 30 := by (try simp only [app_size]); omega
      have zG := one_app 114 gb
      have zD := one_app 32 gd
      have HA : Hid ((⟨#[114]⟩ ++ gb) ++ ((⟨#[32]⟩ ++ gd) ++ ⟨#[]⟩) = ((⟨#[114]⟩ ++ gb) ++ ⟨#[32]⟩) ++ gd) := Lib.hid (by apply ByteArray.ext; simp [ByteArray.data_append, Array.append_assoc])
      go_wp2_with fail
      refine (CD.out _ (powTab_below HT.out HB1.out)).mono ?_
      rintro e' W2 ⟨rfl, hb⟩
      have s2 := hb.size
      have HB2 := Lib.hid (HB1.out.trans (hb.mono HB1.out.size))
      have Q2 := Lib.hid (Q1.out.keep (by omega) hb)
      clear hb
      obtain ⟨g0, g1, g2, g3, g4, g5⟩ := atFlat Q2.out
      go_wp2_with fail
      clear g0 g1 g2 g3 g4 g5
      have HB := HB2
      have HQ : Hid (el6.At W2 w.heap.size 0 ⟨2, b, c, d, e, f⟩) := Q2
      have q3 : w.heap.size < W2.heap.size := by omega
      have HP := Lib.hid (powTab_below HT.out HB2.out)
      generalize W2 = WQ at HB HQ q3 HP ⊢
      refine class_region WQ.heap.size (by kernel_rfl) (by kernel_rfl) ?_
      with_reducible refine class_opk (.pointer (some ⟨w.heap.size, 0, none⟩)) ?_ ?_ ?_
      · exact rfl
      · intro W hW
        go_simp
      intro K hK
      go_simp
      with_reducible refine hK _ ?_
      clear hK K
      with_reducible refine class_opk (.int .i64 2) ?_ ?_ ?_
      · exact rfl
      · intro W hW
        obtain ⟨g0, g1, g2, g3, g4, g5⟩ := atFlat (HQ.out.keep (by omega) hW)
        go_simp
      intro K hK
      go_simp
      with_reducible refine hK _ ?_
      clear hK K
      with_reducible refine class_opk (.int .i64 1) ?_ ?_ ?_
      · exact rfl
      · intro W hW
        go_simp
        try rfl
      intro K hK
      go_simp
      with_reducible refine hK _ ?_
      clear hK K
      with_reducible refine class_opk (.int .u8 114) ?_ ?_ ?_
      · exact rfl
      · intro W hW
        go_simp
        first | rfl | exact ⟨rfl, rfl⟩ | decide
      intro K hK
      go_simp
      with_reducible refine hK _ ?_
      clear hK K
      with_reducible refine class_opk (.string ⟨#[114]⟩) ?_ ?_ ?_
      · exact rfl
      · intro W hW
        go_simp
        first | kernel_rfl | rfl | decide
      intro K hK
      go_simp
      with_reducible refine hK _ ?_
      clear hK K
      with_reducible refine class_opk (.pointer (some ⟨w.heap.size, 1, none⟩)) ?_ ?_ ?_
      · exact rfl
      · intro W hW
        go_simp
      intro K hK
      go_simp
      with_reducible refine hK _ ?_
      clear hK K
      with_reducible refine class_opk (.int .i64 b) ?_ ?_ ?_
      · exact rfl
      · intro W hW
        obtain ⟨g0, g1, g2, g3, g4, g5⟩ := atFlat (HQ.out.keep (by omega) hW)
        go_simp
      intro K hK
      go_simp
      with_reducible refine hK _ ?_
      clear hK K
      with_reducible refine class_opk (.string gb) ?_ ?_ ?_
      · exact rfl
      · intro W hW
        go_simp
        refine class_call hW ?_
        exact CB.out W (powTab_below HP.out hW)
      intro K hK
      go_simp
      with_reducible refine hK _ ?_
      clear hK K
      with_reducible refine class_opk (.string (⟨#[114]⟩ ++ gb)) ?_ ?_ ?_
      · exact rfl
      · intro W hW
        go_simp
        try rw [if_neg (by omega)]
        try exact ⟨rfl, rfl⟩
      intro K hK
      go_simp
      with_reducible refine hK _ ?_
      clear hK K
      with_reducible refine class_opk (.string ((⟨#[32]⟩ ++ gd) ++ ⟨#[]⟩)) ?_ ?_ ?_
      · exact rfl
      · intro W hW
        go_simp
      intro K hK
      go_simp
      with_reducible refine hK _ ?_
      clear hK K
      with_reducible refine class_opk (.string ((⟨#[114]⟩ ++ gb) ++ ((⟨#[32]⟩ ++ gd) ++ ⟨#[]⟩))) ?_ ?_ ?_
      · exact rfl
      · intro W hW
        go_simp
        try rw [if_neg (by omega)]
        try exact ⟨rfl, rfl⟩
      intro K hK
      go_simp
      with_reducible refine hK _ ?_
      clear hK K
      with_reducible refine class_opk (.string ((⟨#[114]⟩ ++ gb) ++ ((⟨#[32]⟩ ++ gd) ++ ⟨#[]⟩))) ?_ ?_ ?_
      · exact rfl
      · intro W hW
        go_simp
      intro K hK
      go_simp
      with_reducible refine hK _ ?_
      clear hK K
      go_simp
      intro W hW
      go_wp2_with fail
      go_ret
      exact ⟨ret_s (by rw [HE.out]; exact HA.out), HB.out.trans (hW.mono HB.out.size)⟩
    · obtain ⟨gb, hgb⟩ : ∃ g, it b = g := ⟨_, rfl⟩
      have zb : gb.size ≤ 10 := by rw [← hgb]; exact it_size (by omega) (by omega)
      have CB : Hid (∀ W : World, Pow W → Calls Tryd.prog 35 #[.int .i64 b] W fun e' w' => e' = .returned (.string gb) ∧ Below W.heap.size W w') := Lib.hid (by rw [← hgb]; exact fun W ht => impl_fmt b W (by omega) (by omega) ht)
      obtain ⟨gd, hgd⟩ : ∃ g, it d = g := ⟨_, rfl⟩
      have zd : gd.size ≤ 10 := by rw [← hgd]; exact it_size (by omega) (by omega)
      have CD : Hid (∀ W : World, Pow W → Calls Tryd.prog 35 #[.int .i64 d] W fun e' w' => e' = .returned (.string gd) ∧ Below W.heap.size W w') := Lib.hid (by rw [← hgd]; exact fun W ht => impl_fmt d W (by omega) (by omega) ht)
      obtain ⟨gf, hgf⟩ : ∃ g, vS f = g := ⟨_, rfl⟩
      have zf : gf.size ≤ 10 := by rw [← hgf]; exact vS_size (by omega) (by omega)
      have CF : Hid (∀ W : World, Pow W → Calls Tryd.prog 47 #[.int .i64 f] W fun e' w' => e' = .returned (.string gf) ∧ Below W.heap.size W w') := Lib.hid (by rw [← hgf]; exact fun W ht => impl_val f W (by omega) (by omega) ht)
      have CFA : Hid (∀ W : World, Pow W → Calls Tryd.prog 34 #[.agg #[.int .i64 3, .int .i64 b, .int .i64 c, .int .i64 d, .int .i64 e, .int .i64 f]] W fun e' w' => e' = .returned (.string gf) ∧ Below W.heap.size W w') := Lib.hid fun W ht => impl_akt 3 b c d e f gf W ht he5 hf99 (by rw [← hgf]; simp)
      have HE : Hid (foT ⟨3, b, c, d, e, f⟩ = ((((⟨#[119]⟩ ++ gb) ++ ⟨#[32]⟩) ++ gd) ++ ⟨#[32]⟩) ++ gf) := Lib.hid (by rw [fo_3 hv, hgb, hgd, hgf])
      have HO : Hid (∀ W : World, Calls Tryd.prog 16 #[.agg #[.int .i64 3, .int .i64 b, .int .i64 c, .int .i64 d, .int .i64 e, .int .i64 f]] W fun e' w' => e' = .returned (.bool true) ∧ Below W.heap.size W w') := Lib.hid fun W => by have := impl_op 3 b c d e f W; rw [hv] at this; exact this
      clear hv hgb hgd hgf
      have q1 := boxed w ⟨3, b, c, d, e, f⟩ 35
      have q2 : (w.alloc (.cells #[.int .i64 3, .int .i64 b, .int .i64 c, .int .i64 d, .int .i64 e, .int .i64 f] 35)).heap.size = w.heap.size + 1 := by simp
      have q0 := new1 w (.cells #[.int .i64 3, .int .i64 b, .int .i64 c, .int .i64 d, .int .i64 e, .int .i64 f] 35)
      go_enter Tryd.func17, Tryd.ntmps17
      go_wp2_with fail
      generalize w.alloc (.cells #[.int .i64 3, .int .i64 b, .int .i64 c, .int .i64 d, .int .i64 e, .int .i64 f] 35) = W0 at q0 q1 q2 ⊢
      have HB0 := Lib.hid q0
      have Q0 := Lib.hid q1
      clear q0 q1
      refine (HO.out _).mono ?_
      rintro e' W1 ⟨rfl, hb⟩
      have s1 := hb.size
      have HB1 := Lib.hid (HB0.out.trans (hb.mono HB0.out.size))
      have Q1 := Lib.hid (Q0.out.keep (by omega) hb)
      clear hb
      obtain ⟨g0, g1, g2, g3, g4, g5⟩ := atFlat Q1.out
      have z32 : (⟨#[32]⟩ : ByteArray).size = 1 := rfl
      have zL : (⟨#[119]⟩ : ByteArray).size = 1 := rfl
      have z0 : (⟨#[]⟩ : ByteArray).size = 0 := rfl
      have zF : ((⟨#[32]⟩ ++ gd) ++ (⟨#[32]⟩ ++ gf) : ByteArray).size ≤ 30 := by (try simp only [app_size]); omega
      have zG := one_app 119 gb
      have zD := one_app 32 gd
      have zE := one_app 32 gf
      have HA : Hid ((⟨#[119]⟩ ++ gb) ++ ((⟨#[32]⟩ ++ gd) ++ (⟨#[32]⟩ ++ gf)) = ((((⟨#[119]⟩ ++ gb) ++ ⟨#[32]⟩) ++ gd) ++ ⟨#[32]⟩) ++ gf) := Lib.hid (by apply ByteArray.ext; simp [ByteArray.data_append, Array.append_assoc])
      go_wp2_with fail
      refine (CFA.out _ (powTab_below HT.out HB1.out)).mono ?_
      rintro e' W2 ⟨rfl, hb⟩
      have s2 := hb.size
      have HB2 := Lib.hid (HB1.out.trans (hb.mono HB1.out.size))
      have Q2 := Lib.hid (Q1.out.keep (by omega) hb)
      clear hb
      obtain ⟨g0, g1, g2, g3, g4, g5⟩ := atFlat Q2.out
      go_wp2_with fail
      refine (CD.out _ (powTab_below HT.out HB2.out)).mono ?_
      rintro e' W3 ⟨rfl, hb⟩
      have s3 := hb.size
      have HB3 := Lib.hid (HB2.out.trans (hb.mono HB2.out.size))
      have Q3 := Lib.hid (Q2.out.keep (by omega) hb)
      clear hb
      obtain ⟨g0, g1, g2, g3, g4, g5⟩ := atFlat Q3.out
      go_wp2_with fail
      clear g0 g1 g2 g3 g4 g5
      have HB := HB3
      have HQ : Hid (el6.At W3 w.heap.size 0 ⟨3, b, c, d, e, f⟩) := Q3
      have q3 : w.heap.size < W3.heap.size := by omega
      have HP := Lib.hid (powTab_below HT.out HB3.out)
      generalize W3 = WQ at HB HQ q3 HP ⊢
      refine class_region WQ.heap.size (by kernel_rfl) (by kernel_rfl) ?_
      with_reducible refine class_opk (.pointer (some ⟨w.heap.size, 0, none⟩)) ?_ ?_ ?_
      · exact rfl
      · intro W hW
        go_simp
      intro K hK
      go_simp
      with_reducible refine hK _ ?_
      clear hK K
      with_reducible refine class_opk (.int .i64 3) ?_ ?_ ?_
      · exact rfl
      · intro W hW
        obtain ⟨g0, g1, g2, g3, g4, g5⟩ := atFlat (HQ.out.keep (by omega) hW)
        go_simp
      intro K hK
      go_simp
      with_reducible refine hK _ ?_
      clear hK K
      with_reducible refine class_opk (.int .i64 2) ?_ ?_ ?_
      · exact rfl
      · intro W hW
        go_simp
        try rfl
      intro K hK
      go_simp
      with_reducible refine hK _ ?_
      clear hK K
      with_reducible refine class_opk (.int .u8 119) ?_ ?_ ?_
      · exact rfl
      · intro W hW
        go_simp
        first | rfl | exact ⟨rfl, rfl⟩ | decide
      intro K hK
      go_simp
      with_reducible refine hK _ ?_
      clear hK K
      with_reducible refine class_opk (.string ⟨#[119]⟩) ?_ ?_ ?_
      · exact rfl
      · intro W hW
        go_simp
        first | kernel_rfl | rfl | decide
      intro K hK
      go_simp
      with_reducible refine hK _ ?_
      clear hK K
      with_reducible refine class_opk (.pointer (some ⟨w.heap.size, 1, none⟩)) ?_ ?_ ?_
      · exact rfl
      · intro W hW
        go_simp
      intro K hK
      go_simp
      with_reducible refine hK _ ?_
      clear hK K
      with_reducible refine class_opk (.int .i64 b) ?_ ?_ ?_
      · exact rfl
      · intro W hW
        obtain ⟨g0, g1, g2, g3, g4, g5⟩ := atFlat (HQ.out.keep (by omega) hW)
        go_simp
      intro K hK
      go_simp
      with_reducible refine hK _ ?_
      clear hK K
      with_reducible refine class_opk (.string gb) ?_ ?_ ?_
      · exact rfl
      · intro W hW
        go_simp
        refine class_call hW ?_
        exact CB.out W (powTab_below HP.out hW)
      intro K hK
      go_simp
      with_reducible refine hK _ ?_
      clear hK K
      with_reducible refine class_opk (.string (⟨#[119]⟩ ++ gb)) ?_ ?_ ?_
      · exact rfl
      · intro W hW
        go_simp
        try rw [if_neg (by omega)]
        try exact ⟨rfl, rfl⟩
      intro K hK
      go_simp
      with_reducible refine hK _ ?_
      clear hK K
      with_reducible refine class_opk (.string ((⟨#[32]⟩ ++ gd) ++ (⟨#[32]⟩ ++ gf))) ?_ ?_ ?_
      · exact rfl
      · intro W hW
        go_simp
      intro K hK
      go_simp
      with_reducible refine hK _ ?_
      clear hK K
      with_reducible refine class_opk (.string ((⟨#[119]⟩ ++ gb) ++ ((⟨#[32]⟩ ++ gd) ++ (⟨#[32]⟩ ++ gf)))) ?_ ?_ ?_
      · exact rfl
      · intro W hW
        go_simp
        try rw [if_neg (by omega)]
        try exact ⟨rfl, rfl⟩
      intro K hK
      go_simp
      with_reducible refine hK _ ?_
      clear hK K
      with_reducible refine class_opk (.string ((⟨#[119]⟩ ++ gb) ++ ((⟨#[32]⟩ ++ gd) ++ (⟨#[32]⟩ ++ gf)))) ?_ ?_ ?_
      · exact rfl
      · intro W hW
        go_simp
      intro K hK
      go_simp
      with_reducible refine hK _ ?_
      clear hK K
      go_simp
      intro W hW
      go_wp2_with fail
      go_ret
      exact ⟨ret_s (by rw [HE.out]; exact HA.out), HB.out.trans (hW.mono HB.out.size)⟩
    · obtain ⟨gb, hgb⟩ : ∃ g, it b = g := ⟨_, rfl⟩
      have zb : gb.size ≤ 10 := by rw [← hgb]; exact it_size (by omega) (by omega)
      have CB : Hid (∀ W : World, Pow W → Calls Tryd.prog 35 #[.int .i64 b] W fun e' w' => e' = .returned (.string gb) ∧ Below W.heap.size W w') := Lib.hid (by rw [← hgb]; exact fun W ht => impl_fmt b W (by omega) (by omega) ht)
      obtain ⟨gd, hgd⟩ : ∃ g, it d = g := ⟨_, rfl⟩
      have zd : gd.size ≤ 10 := by rw [← hgd]; exact it_size (by omega) (by omega)
      have CD : Hid (∀ W : World, Pow W → Calls Tryd.prog 35 #[.int .i64 d] W fun e' w' => e' = .returned (.string gd) ∧ Below W.heap.size W w') := Lib.hid (by rw [← hgd]; exact fun W ht => impl_fmt d W (by omega) (by omega) ht)
      obtain ⟨ge, hge⟩ : ∃ g, it e = g := ⟨_, rfl⟩
      have ze : ge.size ≤ 10 := by rw [← hge]; exact it_size (by omega) (by omega)
      have CE : Hid (∀ W : World, Pow W → Calls Tryd.prog 35 #[.int .i64 e] W fun e' w' => e' = .returned (.string ge) ∧ Below W.heap.size W w') := Lib.hid (by rw [← hge]; exact fun W ht => impl_fmt e W (by omega) (by omega) ht)
      have CEA : Hid (∀ W : World, Pow W → Calls Tryd.prog 34 #[.agg #[.int .i64 4, .int .i64 b, .int .i64 c, .int .i64 d, .int .i64 e, .int .i64 f]] W fun e' w' => e' = .returned (.string ge) ∧ Below W.heap.size W w') := Lib.hid fun W ht => impl_akt 4 b c d e f ge W ht he5 hf99 (by rw [← hge]; simp)
      have HE : Hid (foT ⟨4, b, c, d, e, f⟩ = ((((⟨#[115]⟩ ++ gb) ++ ⟨#[32]⟩) ++ gd) ++ ⟨#[32]⟩) ++ ge) := Lib.hid (by rw [fo_4 hv, hgb, hgd, hge])
      have HO : Hid (∀ W : World, Calls Tryd.prog 16 #[.agg #[.int .i64 4, .int .i64 b, .int .i64 c, .int .i64 d, .int .i64 e, .int .i64 f]] W fun e' w' => e' = .returned (.bool true) ∧ Below W.heap.size W w') := Lib.hid fun W => by have := impl_op 4 b c d e f W; rw [hv] at this; exact this
      clear hv hgb hgd hge
      have q1 := boxed w ⟨4, b, c, d, e, f⟩ 35
      have q2 : (w.alloc (.cells #[.int .i64 4, .int .i64 b, .int .i64 c, .int .i64 d, .int .i64 e, .int .i64 f] 35)).heap.size = w.heap.size + 1 := by simp
      have q0 := new1 w (.cells #[.int .i64 4, .int .i64 b, .int .i64 c, .int .i64 d, .int .i64 e, .int .i64 f] 35)
      go_enter Tryd.func17, Tryd.ntmps17
      go_wp2_with fail
      generalize w.alloc (.cells #[.int .i64 4, .int .i64 b, .int .i64 c, .int .i64 d, .int .i64 e, .int .i64 f] 35) = W0 at q0 q1 q2 ⊢
      have HB0 := Lib.hid q0
      have Q0 := Lib.hid q1
      clear q0 q1
      refine (HO.out _).mono ?_
      rintro e' W1 ⟨rfl, hb⟩
      have s1 := hb.size
      have HB1 := Lib.hid (HB0.out.trans (hb.mono HB0.out.size))
      have Q1 := Lib.hid (Q0.out.keep (by omega) hb)
      clear hb
      obtain ⟨g0, g1, g2, g3, g4, g5⟩ := atFlat Q1.out
      have z32 : (⟨#[32]⟩ : ByteArray).size = 1 := rfl
      have zL : (⟨#[115]⟩ : ByteArray).size = 1 := rfl
      have z0 : (⟨#[]⟩ : ByteArray).size = 0 := rfl
      have zF : ((⟨#[32]⟩ ++ gd) ++ (⟨#[32]⟩ ++ ge) : ByteArray).size ≤ 30 := by (try simp only [app_size]); omega
      have zG := one_app 115 gb
      have zD := one_app 32 gd
      have zE := one_app 32 ge
      have HA : Hid ((⟨#[115]⟩ ++ gb) ++ ((⟨#[32]⟩ ++ gd) ++ (⟨#[32]⟩ ++ ge)) = ((((⟨#[115]⟩ ++ gb) ++ ⟨#[32]⟩) ++ gd) ++ ⟨#[32]⟩) ++ ge) := Lib.hid (by apply ByteArray.ext; simp [ByteArray.data_append, Array.append_assoc])
      go_wp2_with fail
      refine (CEA.out _ (powTab_below HT.out HB1.out)).mono ?_
      rintro e' W2 ⟨rfl, hb⟩
      have s2 := hb.size
      have HB2 := Lib.hid (HB1.out.trans (hb.mono HB1.out.size))
      have Q2 := Lib.hid (Q1.out.keep (by omega) hb)
      clear hb
      obtain ⟨g0, g1, g2, g3, g4, g5⟩ := atFlat Q2.out
      go_wp2_with fail
      refine (CD.out _ (powTab_below HT.out HB2.out)).mono ?_
      rintro e' W3 ⟨rfl, hb⟩
      have s3 := hb.size
      have HB3 := Lib.hid (HB2.out.trans (hb.mono HB2.out.size))
      have Q3 := Lib.hid (Q2.out.keep (by omega) hb)
      clear hb
      obtain ⟨g0, g1, g2, g3, g4, g5⟩ := atFlat Q3.out
      go_wp2_with fail
      clear g0 g1 g2 g3 g4 g5
      have HB := HB3
      have HQ : Hid (el6.At W3 w.heap.size 0 ⟨4, b, c, d, e, f⟩) := Q3
      have q3 : w.heap.size < W3.heap.size := by omega
      have HP := Lib.hid (powTab_below HT.out HB3.out)
      generalize W3 = WQ at HB HQ q3 HP ⊢
      refine class_region WQ.heap.size (by kernel_rfl) (by kernel_rfl) ?_
      with_reducible refine class_opk (.pointer (some ⟨w.heap.size, 0, none⟩)) ?_ ?_ ?_
      · exact rfl
      · intro W hW
        go_simp
      intro K hK
      go_simp
      with_reducible refine hK _ ?_
      clear hK K
      with_reducible refine class_opk (.int .i64 4) ?_ ?_ ?_
      · exact rfl
      · intro W hW
        obtain ⟨g0, g1, g2, g3, g4, g5⟩ := atFlat (HQ.out.keep (by omega) hW)
        go_simp
      intro K hK
      go_simp
      with_reducible refine hK _ ?_
      clear hK K
      with_reducible refine class_opk (.int .i64 3) ?_ ?_ ?_
      · exact rfl
      · intro W hW
        go_simp
        try rfl
      intro K hK
      go_simp
      with_reducible refine hK _ ?_
      clear hK K
      with_reducible refine class_opk (.int .u8 115) ?_ ?_ ?_
      · exact rfl
      · intro W hW
        go_simp
        first | rfl | exact ⟨rfl, rfl⟩ | decide
      intro K hK
      go_simp
      with_reducible refine hK _ ?_
      clear hK K
      with_reducible refine class_opk (.string ⟨#[115]⟩) ?_ ?_ ?_
      · exact rfl
      · intro W hW
        go_simp
        first | kernel_rfl | rfl | decide
      intro K hK
      go_simp
      with_reducible refine hK _ ?_
      clear hK K
      with_reducible refine class_opk (.pointer (some ⟨w.heap.size, 1, none⟩)) ?_ ?_ ?_
      · exact rfl
      · intro W hW
        go_simp
      intro K hK
      go_simp
      with_reducible refine hK _ ?_
      clear hK K
      with_reducible refine class_opk (.int .i64 b) ?_ ?_ ?_
      · exact rfl
      · intro W hW
        obtain ⟨g0, g1, g2, g3, g4, g5⟩ := atFlat (HQ.out.keep (by omega) hW)
        go_simp
      intro K hK
      go_simp
      with_reducible refine hK _ ?_
      clear hK K
      with_reducible refine class_opk (.string gb) ?_ ?_ ?_
      · exact rfl
      · intro W hW
        go_simp
        refine class_call hW ?_
        exact CB.out W (powTab_below HP.out hW)
      intro K hK
      go_simp
      with_reducible refine hK _ ?_
      clear hK K
      with_reducible refine class_opk (.string (⟨#[115]⟩ ++ gb)) ?_ ?_ ?_
      · exact rfl
      · intro W hW
        go_simp
        try rw [if_neg (by omega)]
        try exact ⟨rfl, rfl⟩
      intro K hK
      go_simp
      with_reducible refine hK _ ?_
      clear hK K
      with_reducible refine class_opk (.string ((⟨#[32]⟩ ++ gd) ++ (⟨#[32]⟩ ++ ge))) ?_ ?_ ?_
      · exact rfl
      · intro W hW
        go_simp
      intro K hK
      go_simp
      with_reducible refine hK _ ?_
      clear hK K
      with_reducible refine class_opk (.string ((⟨#[115]⟩ ++ gb) ++ ((⟨#[32]⟩ ++ gd) ++ (⟨#[32]⟩ ++ ge)))) ?_ ?_ ?_
      · exact rfl
      · intro W hW
        go_simp
        try rw [if_neg (by omega)]
        try exact ⟨rfl, rfl⟩
      intro K hK
      go_simp
      with_reducible refine hK _ ?_
      clear hK K
      with_reducible refine class_opk (.string ((⟨#[115]⟩ ++ gb) ++ ((⟨#[32]⟩ ++ gd) ++ (⟨#[32]⟩ ++ ge)))) ?_ ?_ ?_
      · exact rfl
      · intro W hW
        go_simp
      intro K hK
      go_simp
      with_reducible refine hK _ ?_
      clear hK K
      go_simp
      intro W hW
      go_wp2_with fail
      go_ret
      exact ⟨ret_s (by rw [HE.out]; exact HA.out), HB.out.trans (hW.mono HB.out.size)⟩
    · obtain ⟨gb, hgb⟩ : ∃ g, it b = g := ⟨_, rfl⟩
      have zb : gb.size ≤ 10 := by rw [← hgb]; exact it_size (by omega) (by omega)
      have CB : Hid (∀ W : World, Pow W → Calls Tryd.prog 35 #[.int .i64 b] W fun e' w' => e' = .returned (.string gb) ∧ Below W.heap.size W w') := Lib.hid (by rw [← hgb]; exact fun W ht => impl_fmt b W (by omega) (by omega) ht)
      have HE : Hid (foT ⟨5, b, c, d, e, f⟩ = ⟨#[99]⟩ ++ gb) := Lib.hid (by rw [fo_5 hv, hgb])
      have HO : Hid (∀ W : World, Calls Tryd.prog 16 #[.agg #[.int .i64 5, .int .i64 b, .int .i64 c, .int .i64 d, .int .i64 e, .int .i64 f]] W fun e' w' => e' = .returned (.bool true) ∧ Below W.heap.size W w') := Lib.hid fun W => by have := impl_op 5 b c d e f W; rw [hv] at this; exact this
      clear hv hgb
      have q1 := boxed w ⟨5, b, c, d, e, f⟩ 35
      have q2 : (w.alloc (.cells #[.int .i64 5, .int .i64 b, .int .i64 c, .int .i64 d, .int .i64 e, .int .i64 f] 35)).heap.size = w.heap.size + 1 := by simp
      have q0 := new1 w (.cells #[.int .i64 5, .int .i64 b, .int .i64 c, .int .i64 d, .int .i64 e, .int .i64 f] 35)
      go_enter Tryd.func17, Tryd.ntmps17
      go_wp2_with fail
      generalize w.alloc (.cells #[.int .i64 5, .int .i64 b, .int .i64 c, .int .i64 d, .int .i64 e, .int .i64 f] 35) = W0 at q0 q1 q2 ⊢
      have HB0 := Lib.hid q0
      have Q0 := Lib.hid q1
      clear q0 q1
      refine (HO.out _).mono ?_
      rintro e' W1 ⟨rfl, hb⟩
      have s1 := hb.size
      have HB1 := Lib.hid (HB0.out.trans (hb.mono HB0.out.size))
      have Q1 := Lib.hid (Q0.out.keep (by omega) hb)
      clear hb
      obtain ⟨g0, g1, g2, g3, g4, g5⟩ := atFlat Q1.out
      have z32 : (⟨#[32]⟩ : ByteArray).size = 1 := rfl
      have zL : (⟨#[99]⟩ : ByteArray).size = 1 := rfl
      have z0 : (⟨#[]⟩ : ByteArray).size = 0 := rfl
      have zF : (⟨#[]⟩ : ByteArray).size ≤ 30 := by (try simp only [app_size]); omega
      have zG := one_app 99 gb
      have HA : Hid ((⟨#[99]⟩ ++ gb) ++ (⟨#[]⟩) = ⟨#[99]⟩ ++ gb) := Lib.hid (by apply ByteArray.ext; simp [ByteArray.data_append, Array.append_assoc])
      go_wp2_with fail
      clear g0 g1 g2 g3 g4 g5
      have HB := HB1
      have HQ : Hid (el6.At W1 w.heap.size 0 ⟨5, b, c, d, e, f⟩) := Q1
      have q3 : w.heap.size < W1.heap.size := by omega
      have HP := Lib.hid (powTab_below HT.out HB1.out)
      generalize W1 = WQ at HB HQ q3 HP ⊢
      refine class_region WQ.heap.size (by kernel_rfl) (by kernel_rfl) ?_
      with_reducible refine class_opk (.pointer (some ⟨w.heap.size, 0, none⟩)) ?_ ?_ ?_
      · exact rfl
      · intro W hW
        go_simp
      intro K hK
      go_simp
      with_reducible refine hK _ ?_
      clear hK K
      with_reducible refine class_opk (.int .i64 5) ?_ ?_ ?_
      · exact rfl
      · intro W hW
        obtain ⟨g0, g1, g2, g3, g4, g5⟩ := atFlat (HQ.out.keep (by omega) hW)
        go_simp
      intro K hK
      go_simp
      with_reducible refine hK _ ?_
      clear hK K
      with_reducible refine class_opk (.int .i64 4) ?_ ?_ ?_
      · exact rfl
      · intro W hW
        go_simp
        try rfl
      intro K hK
      go_simp
      with_reducible refine hK _ ?_
      clear hK K
      with_reducible refine class_opk (.int .u8 99) ?_ ?_ ?_
      · exact rfl
      · intro W hW
        go_simp
        first | rfl | exact ⟨rfl, rfl⟩ | decide
      intro K hK
      go_simp
      with_reducible refine hK _ ?_
      clear hK K
      with_reducible refine class_opk (.string ⟨#[99]⟩) ?_ ?_ ?_
      · exact rfl
      · intro W hW
        go_simp
        first | kernel_rfl | rfl | decide
      intro K hK
      go_simp
      with_reducible refine hK _ ?_
      clear hK K
      with_reducible refine class_opk (.pointer (some ⟨w.heap.size, 1, none⟩)) ?_ ?_ ?_
      · exact rfl
      · intro W hW
        go_simp
      intro K hK
      go_simp
      with_reducible refine hK _ ?_
      clear hK K
      with_reducible refine class_opk (.int .i64 b) ?_ ?_ ?_
      · exact rfl
      · intro W hW
        obtain ⟨g0, g1, g2, g3, g4, g5⟩ := atFlat (HQ.out.keep (by omega) hW)
        go_simp
      intro K hK
      go_simp
      with_reducible refine hK _ ?_
      clear hK K
      with_reducible refine class_opk (.string gb) ?_ ?_ ?_
      · exact rfl
      · intro W hW
        go_simp
        refine class_call hW ?_
        exact CB.out W (powTab_below HP.out hW)
      intro K hK
      go_simp
      with_reducible refine hK _ ?_
      clear hK K
      with_reducible refine class_opk (.string (⟨#[99]⟩ ++ gb)) ?_ ?_ ?_
      · exact rfl
      · intro W hW
        go_simp
        try rw [if_neg (by omega)]
        try exact ⟨rfl, rfl⟩
      intro K hK
      go_simp
      with_reducible refine hK _ ?_
      clear hK K
      with_reducible refine class_opk (.string (⟨#[]⟩)) ?_ ?_ ?_
      · exact rfl
      · intro W hW
        go_simp
      intro K hK
      go_simp
      with_reducible refine hK _ ?_
      clear hK K
      with_reducible refine class_opk (.string ((⟨#[99]⟩ ++ gb) ++ (⟨#[]⟩))) ?_ ?_ ?_
      · exact rfl
      · intro W hW
        go_simp
        try rw [if_neg (by omega)]
        try exact ⟨rfl, rfl⟩
      intro K hK
      go_simp
      with_reducible refine hK _ ?_
      clear hK K
      with_reducible refine class_opk (.string ((⟨#[99]⟩ ++ gb) ++ (⟨#[]⟩))) ?_ ?_ ?_
      · exact rfl
      · intro W hW
        go_simp
      intro K hK
      go_simp
      with_reducible refine hK _ ?_
      clear hK K
      go_simp
      intro W hW
      go_wp2_with fail
      go_ret
      exact ⟨ret_s (by rw [HE.out]; exact HA.out), HB.out.trans (hW.mono HB.out.size)⟩
    · obtain ⟨gb, hgb⟩ : ∃ g, it b = g := ⟨_, rfl⟩
      have zb : gb.size ≤ 10 := by rw [← hgb]; exact it_size (by omega) (by omega)
      have CB : Hid (∀ W : World, Pow W → Calls Tryd.prog 35 #[.int .i64 b] W fun e' w' => e' = .returned (.string gb) ∧ Below W.heap.size W w') := Lib.hid (by rw [← hgb]; exact fun W ht => impl_fmt b W (by omega) (by omega) ht)
      have HE : Hid (foT ⟨6, b, c, d, e, f⟩ = ⟨#[97]⟩ ++ gb) := Lib.hid (by rw [fo_6 hv, hgb])
      have HO : Hid (∀ W : World, Calls Tryd.prog 16 #[.agg #[.int .i64 6, .int .i64 b, .int .i64 c, .int .i64 d, .int .i64 e, .int .i64 f]] W fun e' w' => e' = .returned (.bool true) ∧ Below W.heap.size W w') := Lib.hid fun W => by have := impl_op 6 b c d e f W; rw [hv] at this; exact this
      clear hv hgb
      have q1 := boxed w ⟨6, b, c, d, e, f⟩ 35
      have q2 : (w.alloc (.cells #[.int .i64 6, .int .i64 b, .int .i64 c, .int .i64 d, .int .i64 e, .int .i64 f] 35)).heap.size = w.heap.size + 1 := by simp
      have q0 := new1 w (.cells #[.int .i64 6, .int .i64 b, .int .i64 c, .int .i64 d, .int .i64 e, .int .i64 f] 35)
      go_enter Tryd.func17, Tryd.ntmps17
      go_wp2_with fail
      generalize w.alloc (.cells #[.int .i64 6, .int .i64 b, .int .i64 c, .int .i64 d, .int .i64 e, .int .i64 f] 35) = W0 at q0 q1 q2 ⊢
      have HB0 := Lib.hid q0
      have Q0 := Lib.hid q1
      clear q0 q1
      refine (HO.out _).mono ?_
      rintro e' W1 ⟨rfl, hb⟩
      have s1 := hb.size
      have HB1 := Lib.hid (HB0.out.trans (hb.mono HB0.out.size))
      have Q1 := Lib.hid (Q0.out.keep (by omega) hb)
      clear hb
      obtain ⟨g0, g1, g2, g3, g4, g5⟩ := atFlat Q1.out
      have z32 : (⟨#[32]⟩ : ByteArray).size = 1 := rfl
      have zL : (⟨#[97]⟩ : ByteArray).size = 1 := rfl
      have z0 : (⟨#[]⟩ : ByteArray).size = 0 := rfl
      have zF : (⟨#[]⟩ : ByteArray).size ≤ 30 := by (try simp only [app_size]); omega
      have zG := one_app 97 gb
      have HA : Hid ((⟨#[97]⟩ ++ gb) ++ (⟨#[]⟩) = ⟨#[97]⟩ ++ gb) := Lib.hid (by apply ByteArray.ext; simp [ByteArray.data_append, Array.append_assoc])
      go_wp2_with fail
      clear g0 g1 g2 g3 g4 g5
      have HB := HB1
      have HQ : Hid (el6.At W1 w.heap.size 0 ⟨6, b, c, d, e, f⟩) := Q1
      have q3 : w.heap.size < W1.heap.size := by omega
      have HP := Lib.hid (powTab_below HT.out HB1.out)
      generalize W1 = WQ at HB HQ q3 HP ⊢
      refine class_region WQ.heap.size (by kernel_rfl) (by kernel_rfl) ?_
      with_reducible refine class_opk (.pointer (some ⟨w.heap.size, 0, none⟩)) ?_ ?_ ?_
      · exact rfl
      · intro W hW
        go_simp
      intro K hK
      go_simp
      with_reducible refine hK _ ?_
      clear hK K
      with_reducible refine class_opk (.int .i64 6) ?_ ?_ ?_
      · exact rfl
      · intro W hW
        obtain ⟨g0, g1, g2, g3, g4, g5⟩ := atFlat (HQ.out.keep (by omega) hW)
        go_simp
      intro K hK
      go_simp
      with_reducible refine hK _ ?_
      clear hK K
      with_reducible refine class_opk (.int .i64 5) ?_ ?_ ?_
      · exact rfl
      · intro W hW
        go_simp
        try rfl
      intro K hK
      go_simp
      with_reducible refine hK _ ?_
      clear hK K
      with_reducible refine class_opk (.int .u8 97) ?_ ?_ ?_
      · exact rfl
      · intro W hW
        go_simp
        first | rfl | exact ⟨rfl, rfl⟩ | decide
      intro K hK
      go_simp
      with_reducible refine hK _ ?_
      clear hK K
      with_reducible refine class_opk (.string ⟨#[97]⟩) ?_ ?_ ?_
      · exact rfl
      · intro W hW
        go_simp
        first | kernel_rfl | rfl | decide
      intro K hK
      go_simp
      with_reducible refine hK _ ?_
      clear hK K
      with_reducible refine class_opk (.pointer (some ⟨w.heap.size, 1, none⟩)) ?_ ?_ ?_
      · exact rfl
      · intro W hW
        go_simp
      intro K hK
      go_simp
      with_reducible refine hK _ ?_
      clear hK K
      with_reducible refine class_opk (.int .i64 b) ?_ ?_ ?_
      · exact rfl
      · intro W hW
        obtain ⟨g0, g1, g2, g3, g4, g5⟩ := atFlat (HQ.out.keep (by omega) hW)
        go_simp
      intro K hK
      go_simp
      with_reducible refine hK _ ?_
      clear hK K
      with_reducible refine class_opk (.string gb) ?_ ?_ ?_
      · exact rfl
      · intro W hW
        go_simp
        refine class_call hW ?_
        exact CB.out W (powTab_below HP.out hW)
      intro K hK
      go_simp
      with_reducible refine hK _ ?_
      clear hK K
      with_reducible refine class_opk (.string (⟨#[97]⟩ ++ gb)) ?_ ?_ ?_
      · exact rfl
      · intro W hW
        go_simp
        try rw [if_neg (by omega)]
        try exact ⟨rfl, rfl⟩
      intro K hK
      go_simp
      with_reducible refine hK _ ?_
      clear hK K
      with_reducible refine class_opk (.string (⟨#[]⟩)) ?_ ?_ ?_
      · exact rfl
      · intro W hW
        go_simp
      intro K hK
      go_simp
      with_reducible refine hK _ ?_
      clear hK K
      with_reducible refine class_opk (.string ((⟨#[97]⟩ ++ gb) ++ (⟨#[]⟩))) ?_ ?_ ?_
      · exact rfl
      · intro W hW
        go_simp
        try rw [if_neg (by omega)]
        try exact ⟨rfl, rfl⟩
      intro K hK
      go_simp
      with_reducible refine hK _ ?_
      clear hK K
      with_reducible refine class_opk (.string ((⟨#[97]⟩ ++ gb) ++ (⟨#[]⟩))) ?_ ?_ ?_
      · exact rfl
      · intro W hW
        go_simp
      intro K hK
      go_simp
      with_reducible refine hK _ ?_
      clear hK K
      go_simp
      intro W hW
      go_wp2_with fail
      go_ret
      exact ⟨ret_s (by rw [HE.out]; exact HA.out), HB.out.trans (hW.mono HB.out.size)⟩
end Go.Proofs.YtjnlbhmddhpmaabDoor.fop
