/- FnCommits holds at every code: the law returns true and writes nothing that was there; its two listed errors are tied to the text of the program. No other condition. -/
import Derived.Test.YtigbknmiidhblaaGreatDoorDz
import Derived.Test.YtigbknmiidhblaaGreatDoorCmm
import Derived.Test.YtigbknmiidhblaaGreatDoorXgc
import Derived.Test.YtigbknmiidhblaaGreatDoorXgb
import Derived.Deep.QuietTactic
import Derived.BigQuiet
import Derived.LoopTactic
import Derived.IntWalk
import Derived.Test.YtigbknmiidhblaaGreatDoorXga
import Derived.Test.YtigbknmiidhblaaGreatDoorCards
import Derived.Test.YtigbknmiidhblaaGreatDoorTie
import Derived.OpenVars
import Derived.OpenShut
import Derived.WalkKit
import Derived.ProofKit
import Derived.ShutString
import Derived.ChangeOld
import Derived.Below
import Derived.Carry
import Derived.Lib.Hide
import Derived.StillTailTactics
import Derived.Deep.RegionHeld3
import Derived.Deep.DeepHandedRow
/- FnCommits: the walk at a code that is not too long. -/
namespace Go.Proofs.YtigbknmiidhblaaGreatDoor.fc
open Go.ChangeShapes Go.WideShapes Go.ChangeAt Go.RowKit
open Go.Proofs.YtigbknmiidhblaaGreatDoor.el2 (Vs E2 new1 below_le)
open Go.Proofs.YtigbknmiidhblaaGreatDoor.tx (Hd TB)
open Go.Proofs.YtigbknmiidhblaaGreatDoor.bx (OwnT txv)
open Go.Proofs.YtigbknmiidhblaaGreatDoor.cur (CurAt CodeAt big_no)
open Go.Proofs.YtigbknmiidhblaaGreatDoor.vers (new2)
open Go.Proofs.YtigbknmiidhblaaGreatDoor.sl (Ver)
open Go.Proofs.YtigbknmiidhblaaGreatDoor.st (Rs cnt)
open Go.Proofs.YtigbknmiidhblaaGreatDoor.os (OS)
open Go.Proofs.YtigbknmiidhblaaGreatDoor.ints (Is)
open Go.Proofs.YtigbknmiidhblaaGreatDoor.ct (cmB cmC cmX nwV)
open Go.Proofs.YtigbknmiidhblaaGreatDoor.cq (Ok9 cm_ok cm_tx inst_cm ins_cnt ins_sa instL cstI)
open Go.Proofs.YtigbknmiidhblaaGreatDoor.sa (saL Ans AnsR)
open Go.Proofs.YtigbknmiidhblaaGreatDoor.val (stB)
open Go.Proofs.YtigbknmiidhblaaGreatDoor.eqst (rB rB_all)
open Go.Proofs.YtigbknmiidhblaaGreatDoor.te (eqT eqT_yes)
set_option linter.unusedVariables false
set_option linter.unusedSimpArgs false
set_option linter.constructorNameAsVariable false
theorem own_two {w : World} {base n c n2 c2 : Nat} {A A2 : Option Addr} {R S : List E2} (h : OwnT w base (.slice A n c) n R (.slice A2 n2 c2) n2 S) : Vs w w.heap.size A n R ∧ Vs w w.heap.size A2 n2 S := by
  obtain ⟨A', c', e, hv, _⟩ := Go.Proofs.YtigbknmiidhblaaGreatDoor.el2.own_vs h.1 (by have := h.1.1; rw [Go.Proofs.YtigbknmiidhblaaGreatDoor.el2.flat_len] at this; omega)
  obtain ⟨A2', c2', e2, hv2, _⟩ := Go.Proofs.YtigbknmiidhblaaGreatDoor.el2.own_vs h.2 (by have := h.2.1; rw [Go.Proofs.YtigbknmiidhblaaGreatDoor.el2.flat_len] at this; omega)
  injection e with e1 _ e3
  injection e2 with f1 _ f3
  subst e1
  subst f1
  exact ⟨hv, hv2⟩
/-- two boxes: a store's and a transaction's, with what lies behind them -/
structure PX (W : World) (b : Nat) (D : Option Addr) (N cN : Nat) (C : List (List Ver)) (x : Hd) (A : Option Addr) (n c : Nat) (R : List E2) (A2 : Option Addr) (n2 c2 : Nat) (S : List E2) : Prop where
  lt : b + 1 < W.heap.size
  st : W.cell? ⟨b, 0, none⟩ = some (.slice D N cN)
  tb : TB W (b + 1) x (.slice A n c) (.slice A2 n2 c2)
  rs : Rs W W.heap.size D N C
  r : Vs W W.heap.size A n R
  w : Vs W W.heap.size A2 n2 S
section
variable {W W' : World} {b N cN n c n2 c2 : Nat} {D A A2 : Option Addr} {C : List (List Ver)} {x : Hd} {R S : List E2}
theorem PX.keep (h : PX W b D N cN C x A n c R A2 n2 c2 S) (hb : Below W.heap.size W W') : PX W' b D N cN C x A n c R A2 n2 c2 S where
  lt := Nat.lt_of_lt_of_le h.lt hb.size
  st := (hb.cell (p := ⟨b, 0, none⟩) (by have := h.lt; simp only; omega)).trans h.st
  tb := TB.keep h.tb h.lt hb
  rs := (h.rs.below hb).more hb.size
  r := (h.r.below hb).more hb.size
  w := (h.w.below hb).more hb.size
theorem PX.new (h1 : Rs W W.heap.size D N C) (h2 : Vs W W.heap.size A n R) (h3 : Vs W W.heap.size A2 n2 S) (cN c c2 : Nat) (x : Hd) : PX ((W.alloc (.cells #[.slice D N cN] 26)).alloc (.cells #[.int .i64 x.i, .int .i64 x.s, .int .i64 x.t, .int .i64 x.b, .int .i64 x.l, .int .i64 x.h, .int .i64 x.c, .slice A n c, .slice A2 n2 c2] 30)) W.heap.size D N cN C x A n c R A2 n2 c2 S where
  lt := by simp
  st := Go.Proofs.YtigbknmiidhblaaGreatDoor.st.up (.cells #[.int .i64 x.i, .int .i64 x.s, .int .i64 x.t, .int .i64 x.b, .int .i64 x.l, .int .i64 x.h, .int .i64 x.c, .slice A n c, .slice A2 n2 c2] 30) (Go.Proofs.YtigbknmiidhblaaGreatDoor.st.one_cell W (.slice D N cN) 26) (by simp)
  tb := by have := TB.new (W.alloc (.cells #[.slice D N cN] 26)) x A n c A2 n2 c2 30; simpa using this
  rs := (h1.below (new2 W (.cells #[.slice D N cN] 26) (.cells #[.int .i64 x.i, .int .i64 x.s, .int .i64 x.t, .int .i64 x.b, .int .i64 x.l, .int .i64 x.h, .int .i64 x.c, .slice A n c, .slice A2 n2 c2] 30))).more (new2 W (.cells #[.slice D N cN] 26) (.cells #[.int .i64 x.i, .int .i64 x.s, .int .i64 x.t, .int .i64 x.b, .int .i64 x.l, .int .i64 x.h, .int .i64 x.c, .slice A n c, .slice A2 n2 c2] 30)).size
  r := (h2.below (new2 W (.cells #[.slice D N cN] 26) (.cells #[.int .i64 x.i, .int .i64 x.s, .int .i64 x.t, .int .i64 x.b, .int .i64 x.l, .int .i64 x.h, .int .i64 x.c, .slice A n c, .slice A2 n2 c2] 30))).more (new2 W (.cells #[.slice D N cN] 26) (.cells #[.int .i64 x.i, .int .i64 x.s, .int .i64 x.t, .int .i64 x.b, .int .i64 x.l, .int .i64 x.h, .int .i64 x.c, .slice A n c, .slice A2 n2 c2] 30)).size
  w := (h3.below (new2 W (.cells #[.slice D N cN] 26) (.cells #[.int .i64 x.i, .int .i64 x.s, .int .i64 x.t, .int .i64 x.b, .int .i64 x.l, .int .i64 x.h, .int .i64 x.c, .slice A n c, .slice A2 n2 c2] 30))).more (new2 W (.cells #[.slice D N cN] 26) (.cells #[.int .i64 x.i, .int .i64 x.s, .int .i64 x.t, .int .i64 x.b, .int .i64 x.l, .int .i64 x.h, .int .i64 x.c, .slice A n c, .slice A2 n2 c2] 30)).size
end
theorem rB_self (C : List (List Ver)) : rB C C = true := rB_all rfl rfl rfl
theorem eqT_self (x : Hd) (R S : List E2) : eqT x R S x R S = true := eqT_yes ⟨rfl, rfl, rfl⟩
theorem cm_short {C : List (List Ver)} {x : Hd} {R S : List E2} {z : Int} (h : ∀ l ∈ C, l.length ≤ 5) : ∀ l ∈ cmC C x R S z, l.length ≤ 50 := by
  rcases hq : cmB C x R S z with _ | _
  · rw [cmC, if_neg (by rw [hq]; exact Bool.false_ne_true)]
    exact fun l hl => Nat.le_trans (h l hl) (by omega)
  · exact Go.Proofs.YtigbknmiidhblaaGreatDoor.apl.st_len50 (inst_cm hq).2.2
theorem short_cnt : ∀ {ll : List (List Ver)} {m : Nat}, (∀ l ∈ ll, l.length ≤ m) → cnt ll ≤ m * ll.length
  | [], m, _ => by simp [cnt]
  | l :: r, m, h => by
    have h1 := h l (by simp)
    have h2 := short_cnt (ll := r) (m := m) (fun l hl => h l (by simp [hl]))
    unfold cnt at h2 ⊢
    simp only [List.map_cons, List.sum_cons, List.length_cons, Nat.mul_add, Nat.mul_one]
    omega
set_option maxRecDepth 100000 in
set_option maxHeartbeats 800000 in
theorem ints_alike {w : World} {B n c c2 : Nat} {A A2 : Option Addr} {xs : List Int} (hn : n ≤ 140737488355328) (h1 : Is w B A n xs) (h2 : Is w B A2 n xs) (hB : B ≤ w.heap.size) :
    Calls Tryz.prog 17 #[.slice A n c, .slice A2 n c2] w fun e w' => e = .returned (.bool true) ∧ Below w.heap.size w w' := by
  have H1 := Lib.hid h1
  have H2 := Lib.hid h2
  clear h1 h2
  go_enter Tryz.func17, Tryz.ntmps17
  go_wp2
  go_loopw [5] (fun i wr => ∃ k : Nat, k ≤ n ∧ i = .int .i64 k ∧ Below w.heap.size w wr) (fun i _ => n - (intOf i).toNat)
  case atStart => exact ⟨0, by omega, rfl, Below.refl _ _⟩
  case round =>
    obtain ⟨k, hk, rfl, hb⟩ := hrel
    by_cases hlt : k < n
    · obtain ⟨b, o, x, rfl, hbB, hx, hc⟩ := (H1.out.below (below_le hb hB)).at_ hlt
      obtain ⟨b', o', x', rfl, hbB', hx', hc'⟩ := (H2.out.below (below_le hb hB)).at_ hlt
      obtain rfl : x = x' := by rw [hx] at hx'; exact Option.some.inj hx'
      have HB := Lib.hid hb
      have t : (x == x) = true := by simp
      clear hb hx hx'
      go_wp2_with fail
      try (go_quiet (fail))
      try (go_wp2_with fail)
      go_roundw
      case rel => exact ⟨k + 1, by omega, by go_num, by first | exact HB.out | exact Go.Proofs.YtigbknmiidhblaaGreatDoor.tf.Off1 HB.out _⟩
      case measure => simp [intOf]; omega
    · have t : decide ((k : Int) < (n : Int)) = false := decide_eq_false (by omega)
      go_wp2
      go_ret
      exact ⟨rfl, hb⟩
theorem ans_of {xs : List Int} {w w' : World} {e : Ending} (h : AnsR xs w e w') : Ans xs w e w' := by
  rcases h with ⟨h1, rfl, h3⟩ | ⟨g, h1, _, _, h4, h5⟩
  · exact ⟨none, 0, 0, h1, Go.Proofs.YtigbknmiidhblaaGreatDoor.ints.Is.nil_ _ _ _, h3⟩
  · exact ⟨_, 6, 6, h1, h4, h5⟩
theorem ans_len {xs : List Int} {w w' : World} {e : Ending} {m : Nat} (hl : xs.length = m) (h : Ans xs w e w') : ∃ A' c', e = .returned (.slice A' m c') ∧ Is w' w'.heap.size A' m xs ∧ Below w.heap.size w w' := by
  obtain ⟨A', m', c', he, hi, hb⟩ := h
  obtain rfl : m' = m := by rw [← hi.1, hl]
  exact ⟨A', c', he, hi, hb⟩
theorem sa_len (ll : List (List Ver)) (s : Int) : (saL ll s).length ≤ 6 := by
  by_cases hr : Go.Proofs.YtigbknmiidhblaaGreatDoor.sa.RdOk ll s 6
  · rw [Go.Proofs.YtigbknmiidhblaaGreatDoor.sa.saL_yes hr, Go.Proofs.YtigbknmiidhblaaGreatDoor.sa.saV_len]; exact Nat.le_refl _
  · rw [Go.Proofs.YtigbknmiidhblaaGreatDoor.sa.saL_not hr]; simp
set_option maxRecDepth 100000 in
set_option maxHeartbeats 12800000 in
theorem core (a : Option Addr) (len cap : Nat) (w : World) (hl : len ≤ 1048576) (hcode : CodeAt w w.heap.size a len) (hF : Go.Proofs.YtigbknmiidhblaaGreatDoor.crm.Ev w) :
    Calls Tryz.prog 3 #[.slice a len cap] w fun e w' => e = .returned (.bool true) ∧ Below w.heap.size w w' := by
  have BIG := Lib.hid (big_no a len cap w (by omega))
  have HT := Lib.hid (Go.Proofs.YtigbknmiidhblaaGreatDoor.dcm.draw_cm a len cap w hl hcode)
  have HFX := Lib.hid hF
  clear hcode hF
  go_enter Tryz.func3, Tryz.ntmps3
  go_wp2_with fail
  refine BIG.out.mono ?_
  rintro e w' ⟨rfl, rfl⟩
  clear BIG
  go_wp2_with fail
  refine HT.out.mono ?_
  rintro e W1 ⟨D, N, cN, C, x, A, n, c, R, A2, n2, c2, S, k, rfl, ⟨hN, hsh⟩, hn, hn2, hrs, hown, hb1⟩
  have HSH := Lib.hid hsh
  clear hsh HT
  obtain ⟨v1, v2⟩ := own_two hown
  have hC6 := hrs.1
  have hR5 := v1.1
  have hS5 := v2.1
  have hnn := new2 W1 (.cells #[.slice D N cN] 26) (.cells #[.int .i64 x.i, .int .i64 x.s, .int .i64 x.t, .int .i64 x.b, .int .i64 x.l, .int .i64 x.h, .int .i64 x.c, .slice A n c, .slice A2 n2 c2] 30)
  have P0 := Lib.hid (PX.new hrs v1 v2 cN c c2 x)
  have HBB := Lib.hid (hb1.trans (hnn.mono hb1.size))
  clear v1 v2 hrs hown hnn hb1
  have st := P0.out.st
  obtain ⟨t0, t1, t2, t3, t4, t5, t6, t7, t8⟩ := P0.out.tb
  go_wp2_with fail
  clear st t0 t1 t2 t3 t4 t5 t6 t7 t8
  obtain ⟨sb, hsb⟩ : ∃ q, q = W1.heap.size := ⟨_, rfl⟩
  rw [← hsb] at P0 ⊢
  skip
  skip
  generalize (W1.alloc _).alloc _ = Wb at P0 HBB ⊢
  clear hsb
  obtain ⟨qB, hqB⟩ : ∃ q, cmB C x R S k = q := ⟨_, rfl⟩
  have QB := Lib.hid hqB
  obtain ⟨qC, hqC⟩ : ∃ q, cmC C x R S k = q := ⟨_, rfl⟩
  have QC := Lib.hid hqC
  obtain ⟨qX, hqX⟩ : ∃ q, cmX C x R S k = q := ⟨_, rfl⟩
  have QX := Lib.hid hqX
  have hshC := cm_short (x := x) (R := R) (S := S) (z := k) HSH.out
  rw [hqC] at hshC
  have SHC := Lib.hid hshC
  clear hqB hqC hqX hshC
  refine (Go.Proofs.YtigbknmiidhblaaGreatDoor.cmi.impl_commit x k (by omega) (fun l hl => by have := HSH.out l hl; omega) (by omega) (by omega) P0.out.r P0.out.w P0.out.rs (Nat.le_refl _) (HFX.out.below HBB.out)).mono ?_
  rintro e V1 ⟨D1, e1, P1a, f1, P1b, g1, he, ho, ht, hb⟩
  rw [QC.out] at ho
  rw [QX.out, QB.out] at he
  subst he
  have hrs := ho.rs (fun l hl => Nat.le_trans (SHC.out l hl) (by omega)) rfl
  obtain ⟨v1, v2⟩ := own_two ht
  have hnn := new2 V1 (.cells #[.slice D1 N e1] 26) (.cells #[.int .i64 qX.i, .int .i64 qX.s, .int .i64 qX.t, .int .i64 qX.b, .int .i64 qX.l, .int .i64 qX.h, .int .i64 qX.c, .slice P1a n f1, .slice P1b n2 g1] 30)
  have hbn := hb.trans (hnn.mono hb.size)
  have P0 := Lib.hid (P0.out.keep hbn)
  have P1 := Lib.hid (PX.new hrs v1 v2 e1 f1 g1 qX)
  have HBB := Lib.hid (HBB.out.trans (hbn.mono HBB.out.size))
  clear hrs v1 v2 ho ht hb hnn hbn
  have st := P0.out.st
  obtain ⟨t0, t1, t2, t3, t4, t5, t6, t7, t8⟩ := P0.out.tb
  go_wp2_with fail
  clear st t0 t1 t2 t3 t4 t5 t6 t7 t8
  generalize hxb : V1.heap.size = xb at P1 ⊢
  generalize (V1.alloc _).alloc _ = Wc at P0 P1 HBB ⊢
  clear hxb
  refine (Go.Proofs.YtigbknmiidhblaaGreatDoor.mc.spec_commit x k (by omega) (fun l hl => by have := HSH.out l hl; omega) (by omega) (by omega) P0.out.r P0.out.w P0.out.rs (Nat.le_refl _)).mono ?_
  rintro e V2 ⟨D2, e2, P2a, f2, P2b, g2, he, ho, ht, hb⟩
  rw [QC.out] at ho
  rw [QX.out, QB.out] at he
  subst he
  have hrs := ho.rs (fun l hl => Nat.le_trans (SHC.out l hl) (by omega)) rfl
  obtain ⟨v1, v2⟩ := own_two ht
  have hnn := new2 V2 (.cells #[.slice D2 N e2] 26) (.cells #[.int .i64 qX.i, .int .i64 qX.s, .int .i64 qX.t, .int .i64 qX.b, .int .i64 qX.l, .int .i64 qX.h, .int .i64 qX.c, .slice P2a n f2, .slice P2b n2 g2] 30)
  have hbn := hb.trans (hnn.mono hb.size)
  have P0 := Lib.hid (P0.out.keep hbn)
  have P1 := Lib.hid (P1.out.keep hbn)
  have P2 := Lib.hid (PX.new hrs v1 v2 e2 f2 g2 qX)
  have HBB := Lib.hid (HBB.out.trans (hbn.mono HBB.out.size))
  clear hrs v1 v2 ho ht hb hnn hbn
  generalize hub : V2.heap.size = ub at P2 ⊢
  skip
  rcases qB with _ | _
  · skip
    have sp := P1.out.st
    obtain ⟨p0, p1, p2, p3, p4, p5, p6, p7, p8⟩ := P1.out.tb
    have su := P2.out.st
    obtain ⟨u0, u1, u2, u3, u4, u5, u6, u7, u8⟩ := P2.out.tb
    go_wp2_with fail
    clear sp su p0 p1 p2 p3 p4 p5 p6 p7 p8 u0 u1 u2 u3 u4 u5 u6 u7 u8
    generalize hub : V2.heap.size = ub at P2 ⊢
    generalize (V2.alloc _).alloc _ = Wd at P0 P1 P2 HBB ⊢
    clear hub
    refine (Go.Proofs.YtigbknmiidhblaaGreatDoor.eqst.impl_stores (by omega) (by omega) P1.out.rs P2.out.rs (Nat.le_refl _)).mono ?_
    rintro e Ve ⟨he, hb⟩
    rw [rB_self] at he
    subst he
    have P0 := Lib.hid (P0.out.keep hb)
    have P1 := Lib.hid (P1.out.keep hb)
    have P2 := Lib.hid (P2.out.keep hb)
    have HBB := Lib.hid (HBB.out.trans (hb.mono HBB.out.size))
    clear hb
    have sp := P1.out.st
    obtain ⟨p0, p1, p2, p3, p4, p5, p6, p7, p8⟩ := P1.out.tb
    have su := P2.out.st
    obtain ⟨u0, u1, u2, u3, u4, u5, u6, u7, u8⟩ := P2.out.tb
    go_wp2_with fail
    clear sp su p0 p1 p2 p3 p4 p5 p6 p7 p8 u0 u1 u2 u3 u4 u5 u6 u7 u8
    refine (Go.Proofs.YtigbknmiidhblaaGreatDoor.te.impl_eqtx qX qX (by omega) (by omega) (by omega) (by omega) P1.out.r P1.out.w P2.out.r P2.out.w (Nat.le_refl _)).mono ?_
    rintro e Vf ⟨he, hb⟩
    rw [eqT_self] at he
    subst he
    have P0 := Lib.hid (P0.out.keep hb)
    have P1 := Lib.hid (P1.out.keep hb)
    have P2 := Lib.hid (P2.out.keep hb)
    have HBB := Lib.hid (HBB.out.trans (hb.mono HBB.out.size))
    clear hb
    obtain rfl : C = qC := by rw [← QC.out, cmC, if_neg (by rw [QB.out]; exact Bool.false_ne_true)]
    obtain rfl : x = qX := by rw [← QX.out, cmX, if_neg (by rw [QB.out]; exact Bool.false_ne_true)]
    have sp := P1.out.st
    obtain ⟨p0, p1, p2, p3, p4, p5, p6, p7, p8⟩ := P1.out.tb
    have su := P0.out.st
    obtain ⟨u0, u1, u2, u3, u4, u5, u6, u7, u8⟩ := P0.out.tb
    go_wp2_with fail
    clear sp su p0 p1 p2 p3 p4 p5 p6 p7 p8 u0 u1 u2 u3 u4 u5 u6 u7 u8
    refine (Go.Proofs.YtigbknmiidhblaaGreatDoor.eqst.impl_stores (by omega) (by omega) P1.out.rs P0.out.rs (Nat.le_refl _)).mono ?_
    rintro e Ve ⟨he, hb⟩
    rw [rB_self] at he
    subst he
    have P0 := Lib.hid (P0.out.keep hb)
    have P1 := Lib.hid (P1.out.keep hb)
    have P2 := Lib.hid (P2.out.keep hb)
    have HBB := Lib.hid (HBB.out.trans (hb.mono HBB.out.size))
    clear hb
    have sp := P1.out.st
    obtain ⟨p0, p1, p2, p3, p4, p5, p6, p7, p8⟩ := P1.out.tb
    have su := P0.out.st
    obtain ⟨u0, u1, u2, u3, u4, u5, u6, u7, u8⟩ := P0.out.tb
    go_wp2_with fail
    clear sp su p0 p1 p2 p3 p4 p5 p6 p7 p8 u0 u1 u2 u3 u4 u5 u6 u7 u8
    refine (Go.Proofs.YtigbknmiidhblaaGreatDoor.te.impl_eqtx x x (by omega) (by omega) (by omega) (by omega) P1.out.r P1.out.w P0.out.r P0.out.w (Nat.le_refl _)).mono ?_
    rintro e Vf ⟨he, hb⟩
    rw [eqT_self] at he
    subst he
    have P0 := Lib.hid (P0.out.keep hb)
    have P1 := Lib.hid (P1.out.keep hb)
    have P2 := Lib.hid (P2.out.keep hb)
    have HBB := Lib.hid (HBB.out.trans (hb.mono HBB.out.size))
    clear hb
    go_wp2_with fail
    go_ret
    exact ⟨rfl, HBB.out⟩
  · skip
    have sp := P1.out.st
    obtain ⟨p0, p1, p2, p3, p4, p5, p6, p7, p8⟩ := P1.out.tb
    have su := P2.out.st
    obtain ⟨u0, u1, u2, u3, u4, u5, u6, u7, u8⟩ := P2.out.tb
    go_wp2_with fail
    clear sp su p0 p1 p2 p3 p4 p5 p6 p7 p8 u0 u1 u2 u3 u4 u5 u6 u7 u8
    generalize hub : V2.heap.size = ub at P2 ⊢
    generalize (V2.alloc _).alloc _ = Wd at P0 P1 P2 HBB ⊢
    clear hub
    refine (Go.Proofs.YtigbknmiidhblaaGreatDoor.eqst.impl_stores (by omega) (by omega) P1.out.rs P2.out.rs (Nat.le_refl _)).mono ?_
    rintro e Ve ⟨he, hb⟩
    rw [rB_self] at he
    subst he
    have P0 := Lib.hid (P0.out.keep hb)
    have P1 := Lib.hid (P1.out.keep hb)
    have P2 := Lib.hid (P2.out.keep hb)
    have HBB := Lib.hid (HBB.out.trans (hb.mono HBB.out.size))
    clear hb
    have sp := P1.out.st
    obtain ⟨p0, p1, p2, p3, p4, p5, p6, p7, p8⟩ := P1.out.tb
    have su := P2.out.st
    obtain ⟨u0, u1, u2, u3, u4, u5, u6, u7, u8⟩ := P2.out.tb
    go_wp2_with fail
    clear sp su p0 p1 p2 p3 p4 p5 p6 p7 p8 u0 u1 u2 u3 u4 u5 u6 u7 u8
    refine (Go.Proofs.YtigbknmiidhblaaGreatDoor.te.impl_eqtx qX qX (by omega) (by omega) (by omega) (by omega) P1.out.r P1.out.w P2.out.r P2.out.w (Nat.le_refl _)).mono ?_
    rintro e Vf ⟨he, hb⟩
    rw [eqT_self] at he
    subst he
    have P0 := Lib.hid (P0.out.keep hb)
    have P1 := Lib.hid (P1.out.keep hb)
    have P2 := Lib.hid (P2.out.keep hb)
    have HBB := Lib.hid (HBB.out.trans (hb.mono HBB.out.size))
    clear hb
    have sp := P1.out.st
    obtain ⟨p0, p1, p2, p3, p4, p5, p6, p7, p8⟩ := P1.out.tb
    have su := P0.out.st
    obtain ⟨u0, u1, u2, u3, u4, u5, u6, u7, u8⟩ := P0.out.tb
    go_wp2_with fail
    clear sp su p0 p1 p2 p3 p4 p5 p6 p7 p8 u0 u1 u2 u3 u4 u5 u6 u7 u8
    obtain ⟨hil, hcs, hsv⟩ := inst_cm QB.out
    rw [QC.out, QX.out] at hil
    rw [QX.out] at hcs
    rw [QC.out] at hsv
    obtain ⟨ok9, hfw, htx, ht1, hlh⟩ := cm_ok QB.out
    obtain ⟨_, _, _, _, hk1⟩ := cm_tx QB.out
    have hzr := ok9.zr.2
    have hcnt := ins_cnt ok9
    have hsa := ins_sa ok9
    have hins : Go.Proofs.YtigbknmiidhblaaGreatDoor.ct.insC C x.i k (Go.Proofs.YtigbknmiidhblaaGreatDoor.em.fwH C x R S k) R S = qC := by rw [← QC.out, cmC, if_pos QB.out]
    rw [hins] at hcnt hsa
    have hc30 := short_cnt HSH.out
    rw [hC6] at hc30
    have hcn : ((cnt qC : Nat) : Int) = ((cnt C : Nat) : Int) + (n2 : Int) := by rw [hcnt, hS5]; push_cast; rfl
    have hab : Go.Proofs.YtigbknmiidhblaaGreatDoor.abt.abX x R S = ⟨x.i, x.s, 3, x.b, x.l, x.h, x.c⟩ := if_pos (by simp [Go.Proofs.YtigbknmiidhblaaGreatDoor.ia.actB, htx, ht1])
    have hac : Go.Proofs.YtigbknmiidhblaaGreatDoor.ia.actB x R S = true := by simp [Go.Proofs.YtigbknmiidhblaaGreatDoor.ia.actB, htx, ht1]
    have HIL := Lib.hid hil
    have HCS := Lib.hid hcs
    have HSV := Lib.hid hsv
    have HCN := Lib.hid hcn
    have HSA := Lib.hid hsa
    have HAB := Lib.hid hab
    have HAC := Lib.hid hac
    have hqc : cnt qC ≤ 60 := by omega
    have w1 : IntKind.i64.wrap (((cnt C : Nat) : Int) + (n2 : Int)) = ((cnt C : Nat) : Int) + (n2 : Int) := IntWalk.i64_in _ (by omega)
    have w2 : IntKind.i64.wrap (k - 1) = k - 1 := IntWalk.i64_in _ (by omega)
    clear hil hcs hsv ok9 hfw htx ht1 hlh hcnt hsa hins hcn hab hac
    refine (Go.Proofs.YtigbknmiidhblaaGreatDoor.inv.impl_inst qX (by omega) (by omega) (by omega) P1.out.r P1.out.w P1.out.rs (Nat.le_refl _)).mono ?_
    rintro e Vg ⟨A6, c6, he, ho, hb⟩
    rw [HIL.out] at he ho
    rw [show (S.map (nwV x.i k)).length = n2 by simp [hS5]] at he ho
    subst he
    obtain ⟨A6', c6', e6, hv6⟩ := Go.Proofs.YtigbknmiidhblaaGreatDoor.flat.own_vs ho (by simp [hS5])
    injection e6 with e61 _ e63
    subst e61
    have V6 := Lib.hid hv6
    have P0 := Lib.hid (P0.out.keep hb)
    have P1 := Lib.hid (P1.out.keep hb)
    have P2 := Lib.hid (P2.out.keep hb)
    have HBB := Lib.hid (HBB.out.trans (hb.mono HBB.out.size))
    clear hb ho hv6 e63
    have ta := P0.out.st
    obtain ⟨ta0, ta1, ta2, ta3, ta4, ta5, ta6, ta7, ta8⟩ := P0.out.tb
    have tb := P1.out.st
    obtain ⟨tb0, tb1, tb2, tb3, tb4, tb5, tb6, tb7, tb8⟩ := P1.out.tb
    go_wp2_with fail
    have hbk0 : Below Vg.heap.size Vg Vg.drew := (Below.refl _ _).drew
    go_region_held3 (fun w' => w'.cell? ⟨sb, 0, none⟩ = some (.slice D N cN) ∧ w'.cell? ⟨sb + 1, 8, none⟩ = some (.slice A2 n2 c2) ∧ w'.cell? ⟨xb, 0, none⟩ = some (.slice D1 N e1) ∧ w'.cell? ⟨xb + 1, 0, none⟩ = some (.int .i64 qX.i) ∧ w'.cell? ⟨xb + 1, 1, none⟩ = some (.int .i64 qX.s) ∧ w'.cell? ⟨xb + 1, 2, none⟩ = some (.int .i64 qX.t) ∧ w'.cell? ⟨xb + 1, 3, none⟩ = some (.int .i64 qX.b) ∧ w'.cell? ⟨xb + 1, 4, none⟩ = some (.int .i64 qX.l) ∧ w'.cell? ⟨xb + 1, 5, none⟩ = some (.int .i64 qX.h) ∧ w'.cell? ⟨xb + 1, 6, none⟩ = some (.int .i64 qX.c) ∧ w'.cell? ⟨xb + 1, 7, none⟩ = some (.slice P1a n f1) ∧ w'.cell? ⟨xb + 1, 8, none⟩ = some (.slice P1b n2 g1)) (go_keep) (first | (go_at_call 15; (with_reducible refine (Go.Proofs.YtigbknmiidhblaaGreatDoor.val.impl_store (by omega) (P1.out.keep hbk3).rs (Nat.le_refl _)).mono ?_); rintro e X4 ⟨he, hb⟩; rw [HSV.out] at he; subst he; have hbk4 := hbk3.trans (hb.mono hbk3.size); clear hb; have kd := (P0.out.keep hbk4).st; obtain ⟨kd0, kd1, kd2, kd3, kd4, kd5, kd6, kd7, kd8⟩ := (P0.out.keep hbk4).tb; have md := (P1.out.keep hbk4).st; obtain ⟨md0, md1, md2, md3, md4, md5, md6, md7, md8⟩ := (P1.out.keep hbk4).tb) | (go_at_call 14; (with_reducible refine (Go.Proofs.YtigbknmiidhblaaGreatDoor.cst.impl_cst qX (by omega) (by omega) (P1.out.keep hbk2).r (P1.out.keep hbk2).w (Nat.le_refl _)).mono ?_); rintro e X3 ⟨he, hb⟩; rw [HCS.out] at he; subst he; have hbk3 := hbk2.trans (hb.mono hbk2.size); clear hb; have kc := (P0.out.keep hbk3).st; obtain ⟨kc0, kc1, kc2, kc3, kc4, kc5, kc6, kc7, kc8⟩ := (P0.out.keep hbk3).tb; have mc := (P1.out.keep hbk3).st; obtain ⟨mc0, mc1, mc2, mc3, mc4, mc5, mc6, mc7, mc8⟩ := (P1.out.keep hbk3).tb) | (go_at_call 13; (with_reducible refine (Go.Proofs.YtigbknmiidhblaaGreatDoor.cnts.spec_count (by omega) (by omega) (P0.out.keep hbk1).rs (Nat.le_refl _)).mono ?_); rintro e X2 ⟨he, hb⟩; subst he; have hbk2 := hbk1.trans (hb.mono hbk1.size); clear hb; have kb := (P0.out.keep hbk2).st; obtain ⟨kb0, kb1, kb2, kb3, kb4, kb5, kb6, kb7, kb8⟩ := (P0.out.keep hbk2).tb; have mb := (P1.out.keep hbk2).st; obtain ⟨mb0, mb1, mb2, mb3, mb4, mb5, mb6, mb7, mb8⟩ := (P1.out.keep hbk2).tb) | (go_at_call 12; (with_reducible refine (Go.Proofs.YtigbknmiidhblaaGreatDoor.cnts.impl_count (by omega) (by omega) (P1.out.keep hbk0).rs (Nat.le_refl _)).mono ?_); rintro e X1 ⟨he, hb⟩; rw [HCN.out] at he; subst he; have hbk1 := hbk0.trans (hb.mono hbk0.size); clear hb; have ka := (P0.out.keep hbk1).st; obtain ⟨ka0, ka1, ka2, ka3, ka4, ka5, ka6, ka7, ka8⟩ := (P0.out.keep hbk1).tb; have ma := (P1.out.keep hbk1).st; obtain ⟨ma0, ma1, ma2, ma3, ma4, ma5, ma6, ma7, ma8⟩ := (P1.out.keep hbk1).tb))
    have P0 := Lib.hid (P0.out.keep hbk4)
    have P1 := Lib.hid (P1.out.keep hbk4)
    have P2 := Lib.hid (P2.out.keep hbk4)
    have V6 := Lib.hid ((V6.out.below hbk4).more hbk4.size)
    have HBB := Lib.hid (HBB.out.trans (hbk4.mono HBB.out.size))
    clear hbk0 hbk1 hbk2 hbk3 hbk4 ta tb ka ma kb mb kc mc kd md ta0 ta1 ta2 ta3 ta4 ta5 ta6 ta7 ta8 tb0 tb1 tb2 tb3 tb4 tb5 tb6 tb7 tb8 ka0 ka1 ka2 ka3 ka4 ka5 ka6 ka7 ka8 ma0 ma1 ma2 ma3 ma4 ma5 ma6 ma7 ma8 kb0 kb1 kb2 kb3 kb4 kb5 kb6 kb7 kb8 mb0 mb1 mb2 mb3 mb4 mb5 mb6 mb7 mb8 kc0 kc1 kc2 kc3 kc4 kc5 kc6 kc7 kc8 mc0 mc1 mc2 mc3 mc4 mc5 mc6 mc7 mc8 kd0 kd1 kd2 kd3 kd4 kd5 kd6 kd7 kd8 md0 md1 md2 md3 md4 md5 md6 md7 md8
    go_wp2_with fail
    go_loopw [13] (fun i wr => ∃ j : Nat, j ≤ n2 ∧ i = .int .i64 j ∧ Below X4.heap.size X4 wr) (fun i _ => n2 - (intOf i).toNat)
    case atStart => exact ⟨0, by omega, rfl, Below.refl _ _⟩
    case round =>
      obtain ⟨j, hj, rfl, hb⟩ := hrel
      have P0 := Lib.hid (P0.out.keep hb)
      have P1 := Lib.hid (P1.out.keep hb)
      have P2 := Lib.hid (P2.out.keep hb)
      have V6 := Lib.hid ((V6.out.below hb).more hb.size)
      have HBB := Lib.hid (HBB.out.trans (hb.mono HBB.out.size))
      have HB4 := Lib.hid hb
      clear hb
      by_cases hlt : j < n2
      · have t : decide ((j : Int) < (n2 : Int)) = true := decide_eq_true (by omega)
        have t9 : (j : Int) < (n2 : Int) := by omega
        obtain ⟨b5, o5, m, rfl, hb5, hm, m0, m1⟩ := P0.out.w.at_ hlt
        obtain ⟨b6, o6, v, rfl, hb6, hv, a0, a1, a2, a3, a4⟩ := V6.out.at_ hlt
        obtain rfl : nwV x.i k m = v := by rw [List.getElem?_map, hm] at hv; exact Option.some.inj hv
        clear hv hm a3 a4 m0
        simp only [nwV] at a0 a1 a2
        have t10 : (0 : Int) ≤ (j : Int) := by omega
        obtain ⟨t0, t1, t2, t3, t4, t5, t6, t7, t8⟩ := P0.out.tb
        go_wp2_with fail
        go_quiet (fail)
        go_wp2_with fail
        go_roundw
        case rel => exact ⟨j + 1, by omega, by go_num, Go.Proofs.YtigbknmiidhblaaGreatDoor.tf.Off1 HB4.out _⟩
        case measure => simp [intOf]; omega
      · have t : decide ((j : Int) < (n2 : Int)) = false := decide_eq_false (by omega)
        obtain ⟨t0, t1, t2, t3, t4, t5, t6, t7, t8⟩ := P0.out.tb
        go_wp2_with fail
        clear t0 t1 t2 t3 t4 t5 t6 t7 t8
        refine (Go.Proofs.YtigbknmiidhblaaGreatDoor.abt.impl_abort x (by omega) (by omega) P0.out.r P0.out.w (Nat.le_refl _)).mono ?_
        rintro e Vh ⟨A7, c7, B7, d7, he, ho, hb⟩
        rw [HAB.out, HAC.out] at he
        subst he
        have hnn := new1 Vh (.cells #[.int .i64 x.i, .int .i64 x.s, .int .i64 3, .int .i64 x.b, .int .i64 x.l, .int .i64 x.h, .int .i64 x.c, .slice A7 n c7, .slice B7 n2 d7] 30)
        have hbn := hb.trans (hnn.mono hb.size)
        have hz := TB.new Vh (⟨x.i, x.s, 3, x.b, x.l, x.h, x.c⟩ : Hd) A7 n c7 B7 n2 d7 30
        have hzl : Vh.heap.size < (Vh.alloc (.cells #[.int .i64 x.i, .int .i64 x.s, .int .i64 3, .int .i64 x.b, .int .i64 x.l, .int .i64 x.h, .int .i64 x.c, .slice A7 n c7, .slice B7 n2 d7] 30)).heap.size := by simp
        have P0 := Lib.hid (P0.out.keep hbn)
        have P1 := Lib.hid (P1.out.keep hbn)
        have P2 := Lib.hid (P2.out.keep hbn)
        have HBB := Lib.hid (HBB.out.trans (hbn.mono HBB.out.size))
        clear hnn hbn hb ho
        have z2 := hz.2.2.1
        clear hz
        go_wp2_with fail
        generalize hzb : Vh.heap.size = zb at z2 hzl ⊢
        generalize Vh.alloc _ = Vi at P0 P1 P2 HBB z2 hzl ⊢
        obtain ⟨xs9, hxs⟩ : ∃ q, saL C (k - 1) = q := ⟨_, rfl⟩
        have hsaq := HSA.out
        rw [hxs] at hsaq
        obtain ⟨m9, hm9⟩ : ∃ q, xs9.length = q := ⟨_, rfl⟩
        have hm6 : m9 ≤ 6 := by have := sa_len C (k - 1); rw [hxs] at this; omega
        have CI := Lib.hid (fun W (h : Rs W W.heap.size D1 N qC) => by have h := Go.Proofs.YtigbknmiidhblaaGreatDoor.sa.impl_state (c := e1) (k - 1) (by omega) h (Nat.le_refl _); rw [hsaq] at h; exact h.mono fun e w' hh => ans_len hm9 (ans_of hh))
        have CS := Lib.hid (fun W (h : Rs W W.heap.size D N C) => by have h := Go.Proofs.YtigbknmiidhblaaGreatDoor.sa.spec_state (c := cN) (k - 1) (by omega) h (Nat.le_refl _); rw [hxs] at h; exact h.mono fun e w' hh => ans_len hm9 hh)
        clear hxs hsaq hm9
        have hbk0 : Below Vi.heap.size Vi Vi.drew := (Below.refl _ _).drew
        have sx := P1.out.st
        have ss := P0.out.st
        go_region_held3 (fun w' => w'.cell? ⟨sb, 0, none⟩ = some (.slice D N cN) ∧ w'.cell? ⟨xb, 0, none⟩ = some (.slice D1 N e1) ∧ w'.cell? ⟨zb, 2, none⟩ = some (.int .i64 3)) (go_keep) (first | (go_at_call 17; (with_reducible refine (ints_alike (by omega) hI8 hI9 (Nat.le_refl _)).mono ?_); rintro e X7 ⟨rfl, hb⟩; have hbk3 := hbk2.trans (hb.mono hbk2.size); clear hb; have sx3 := (P1.out.keep hbk3).st; have ss3 := (P0.out.keep hbk3).st; have sz3 := (hbk3.cell (p := ⟨zb, 2, none⟩) hzl).trans z2) | (go_at_call 19; (with_reducible refine (CS.out _ (P0.out.keep hbk1).rs).mono ?_); rintro e X6 ⟨A9, c9, rfl, hI9, hb⟩; have hI8 := (hI8.below hb).more hb.size; have hbk2 := hbk1.trans (hb.mono hbk1.size); clear hb; have sx2 := (P1.out.keep hbk2).st; have ss2 := (P0.out.keep hbk2).st; have sz2 := (hbk2.cell (p := ⟨zb, 2, none⟩) hzl).trans z2) | (go_at_call 18; (with_reducible refine (CI.out _ (P1.out.keep hbk0).rs).mono ?_); rintro e X5 ⟨A8, c8, rfl, hI8, hb⟩; have hbk1 := hbk0.trans (hb.mono hbk0.size); clear hb; have sx1 := (P1.out.keep hbk1).st; have ss1 := (P0.out.keep hbk1).st; have sz1 := (hbk1.cell (p := ⟨zb, 2, none⟩) hzl).trans z2))
        have HBB := Lib.hid (HBB.out.trans (hbk3.mono HBB.out.size))
        go_wp2_with fail
        go_ret
        exact ⟨rfl, HBB.out⟩
end Go.Proofs.YtigbknmiidhblaaGreatDoor.fc
namespace Go.Proofs.YtigbknmiidhblaaGreatDoor.fnCommits
open Go.ChangeShapes Go.WideShapes Go.ChangeAt Go.RowKit
open Go.ChangeMaps (open_string shut_string)
open Go.Proofs.YtigbknmiidhblaaGreatDoor.cur
set_option linter.unusedVariables false
abbrev Facts := Go.Proofs.YtigbknmiidhblaaGreatDoor.crm.Ev
noncomputable abbrev laidWorld := Go.Proofs.YtigbknmiidhblaaGreatDoor.erv.errWorld
theorem own : ownKnob Tryz.prog.godebug = none := by kernel_rfl
theorem laidOut : laidOutB Tryz.prog = true := by kernel_rfl
def IsRow (k : IntKind) (w : World) (a : Option Addr) (len cap : Nat) (zs : List Int) : Prop :=
  (a = none ∧ len = 0 ∧ cap = 0 ∧ zs = []) ∨
  ∃ x, a = some x ∧ len ≤ cap ∧ cap ≤ maxLen ∧ zs.length = cap ∧ (∀ i, i < zs.length → w.cell? (x.add i) = some (.int k (zs.getD i 0))) ∧ ∀ n ∈ zs, (Lit.int k n).wf = true
theorem code_of {w : World} {a : Option Addr} {len cap : Nat} {zs : List Int} (h : IsRow .u8 w a len cap zs) : CodeAt w w.heap.size a len := by
  intro j hj
  rcases h with ⟨rfl, rfl, rfl, rfl⟩ | ⟨x, rfl, hl, hm, hz, hcell, hwz⟩
  · omega
  · obtain ⟨cb, off, spot⟩ := x
    have hc := hcell j (by omega)
    have hspot : spot = none := by
      have h0 := hcell 0 (by omega)
      simpa [Addr.add] using World.cell?_spot h0
    subst hspot
    rw [Addr.add_lit] at hc
    have hmem : zs.getD j 0 ∈ zs := by
      rw [List.getD_eq_getElem?_getD, List.getElem?_eq_getElem (show j < zs.length by omega)]
      exact List.getElem_mem _
    have hb := bounds_u8 (hwz _ hmem)
    exact ⟨cb, off, _, rfl, World.block_lt_of_cell? w _ hc, hb.1, hb.2, hc⟩
theorem walk (a : Option Addr) (len cap : Nat) (zs : List Int) (w : World) (h : IsRow .u8 w a len cap zs) (hF : Facts w) :
    Calls Tryz.prog 3 #[.slice a len cap] w fun e w' => e = .returned (.bool true) ∧ Below w.heap.size w w' := by
  by_cases hbig : 1048576 < len
  · have BIG := Lib.hid (big_yes a len cap w hbig)
    clear h hF
    go_enter Tryz.func3, Tryz.ntmps3
    go_wp2_with fail
    refine BIG.out.mono ?_
    rintro e w' ⟨rfl, rfl⟩
    go_wp2_with fail
    go_ret
    exact ⟨rfl, Below.refl _ _⟩
  · exact Go.Proofs.YtigbknmiidhblaaGreatDoor.fc.core a len cap w (by omega) (code_of h) hF
def readArgs (H : Type) : List (DataW H) := [.nil]
theorem facts {W : World} (h : laidMetH Tryz.prog Rows.fnCommitsRow.laid W) : Facts W := Go.Proofs.YtigbknmiidhblaaGreatDoor.erv.ev_of (r := []) h
/-! ### THE ROW -/
set_option maxRecDepth 100000 in
theorem contract (H : Type) (enc : TypeId × Value → H) (W : World) (base : Nat) (args : Array Value) (ds gs : List (DataW H)) (before : List MemPlace)
    (hval0 : ∀ (j : Nat) t v, Tryz.f3.params[j]? = some t → args[j]? = some v → Value.okWide Tryz.prog W .any base t v)
    (hW : DataW.Whole enc Tryz.prog Tryz.f3.params.toList Rows.fnCommitsSpec.vars false W args.toList ds gs before) (hL : laidMetH Tryz.prog Rows.fnCommitsRow.laid W) :
    Calls Tryz.prog 3 args W fun e W' => ∃ v, e = .returned v ∧ Rows.fnCommitsSpec.post enc Tryz.prog Tryz.f3 false true false false W args v W' := by
  have hval := hval0
  have hW' := hW
  obtain ⟨pp, qq, hA0, hV, rfl, hfz, hnd⟩ := hW
  have hA : DataW.TrodAll enc Tryz.prog W 0 (fun _ => true) true Tryz.f3.params.toList args.toList ds pp := hA0
  rw [Tryz.params3] at hA hval
  obtain ⟨v0, vs0, dd0, ds0, pp0, qq0, hargs, rfl, rfl, h0, r0⟩ := trodAll_cons hA
  obtain ⟨rfl, rfl, rfl⟩ := trodAll_nil r0
  obtain rfl : args = #[v0] := by cases args; simp_all
  have hV2 := hV
  obtain ⟨_, _, _, _, _, _, _, _, _, _, _, _, rfl, -⟩ := trodVars_two hV2
  obtain ⟨a0, len0, cap0, rfl⟩ := okWide_slice Tryz.underlying22 (hval 0 22 v0 rfl rfl)
  have k0 := h0
  have lt0 : ∀ x ∈ pp0, x.block < W.heap.size := by obtain ⟨m, hm⟩ := k0; exact DataW.trod_lt m _ _ _ hm
  obtain ⟨z0, w0⟩ : ∃ zs, IsRow .u8 W a0 len0 cap0 zs := by
    obtain ⟨fuel, hf⟩ := h0
    rcases open_ints Tryz.underlying22 Tryz.underlying5 (by kernel_rfl) hf with ⟨hcs, _⟩ | ⟨x, l, c, zs, hcs, _, hl, hm, hz, _, hcell, hwz⟩
    · simp [Value.cells] at hcs
      obtain ⟨rfl, rfl, rfl⟩ := hcs
      exact ⟨[], .inl ⟨rfl, rfl, rfl, rfl⟩⟩
    · simp [Value.cells] at hcs
      obtain ⟨rfl, rfl, rfl⟩ := hcs
      exact ⟨zs, .inr ⟨_, rfl, hl, hm, by simpa using hz, hcell, hwz⟩⟩
  clear hA0 hval0
  refine (walk a0 len0 cap0 z0 W w0 (facts hL)).mono fun e W' ⟨he, bel⟩ => ?_
  subst he
  exact ⟨_, rfl, _, _, _, [], _, _, hW', trodAll_mk1 (shut_bool Tryz.underlying4 _), (trodAll_cons_mk (Below.trod laidOut (by kernel_rfl) (of_decide_eq_true (by kernel_rfl)) k0 bel lt0) trodAll_mk0), bel.trodVars laidOut (by kernel_rfl) hV, bel.frame _, fun h => by cases h⟩

set_option maxRecDepth 100000 in
theorem laid_met (os : Os) : laidMetH Tryz.prog Rows.fnCommitsRow.laid ((laidWorld os).forCall (fun _ _ => 0) ⟨#[], #[.slice none 0 0], []⟩).memory :=
  laidMet_of_run' 8 (by kernel_rfl) (by kernel_rfl)
set_option maxRecDepth 100000 in
theorem reads (os : Os) {H : Type} (enc : TypeId × Value → H) : ∃ gs places, DataW.whole enc Tryz.prog ((laidWorld os).forCall (fun _ _ => 0) ⟨#[], #[.slice none 0 0], []⟩).memory Tryz.f3.params.toList Rows.fnCommitsSpec.vars false (#[.slice none 0 0] : Array Value).toList 8 = some (readArgs H, gs, places) := by
  have h : (DataW.whole enc Tryz.prog ((laidWorld os).forCall (fun _ _ => 0) ⟨#[], #[.slice none 0 0], []⟩).memory Tryz.f3.params.toList Rows.fnCommitsSpec.vars false (#[.slice none 0 0] : Array Value).toList 8).map (fun x => x.1) = some (readArgs H) := by kernel_rfl
  rcases hw : DataW.whole enc Tryz.prog ((laidWorld os).forCall (fun _ _ => 0) ⟨#[], #[.slice none 0 0], []⟩).memory Tryz.f3.params.toList Rows.fnCommitsSpec.vars false (#[.slice none 0 0] : Array Value).toList 8 with _ | ⟨a, b, c⟩
  · rw [hw] at h; cases h
  · rw [hw] at h
    simp only [Option.map_some, Option.some.injEq] at h
    subst h
    exact ⟨b, c, rfl⟩
set_option maxRecDepth 100000 in
theorem lifted (os : Os) (started : os.Started) (H : Type) (enc : TypeId × Value → H) (F : Stop.Interp) :
    ReturnsInHanded {} Tryz.checked os 3 .any ((OpenSpec.ofChange Rows.fnCommitsSpec).preRow enc Tryz.prog Tryz.f3 Rows.fnCommitsRow.domain false Rows.fnCommitsRow.laid) (((OpenSpec.ofChange Rows.fnCommitsSpec).at F).post enc Tryz.prog Tryz.f3 false true false false) := by
  obtain ⟨gs0, places, hx⟩ := reads os enc
  refine returnsInHanded_of_row (C := Tryz.checked) (s := OpenSpec.ofChange Rows.fnCommitsSpec) own started (by kernel_rfl) Tryz.func3
    (witness_row_at (enc := enc) (C := Tryz.checked) false (laidWorld os) #[.slice none 0 0] rfl (by kernel_rfl) (by kernel_rfl) (by kernel_rfl)
      (OpenSpec.preRow_of_cond 8 hx (by kernel_rfl) (fun k hk => by cases hk) (by kernel_rfl) (laid_met os))) ?_
  intro W base args ds gs before hval hW _ _ _ hL _ _
  exact contract H enc W base args ds gs before hval hW hL

theorem said : Rows.FnCommitsSaid :=
  OpenClaim.holds_of_cond 3 Tryz.f3 rfl rfl rfl rfl rfl rfl rfl ⟨rfl, rfl, rfl, rfl, rfl⟩ rfl rfl rfl rfl rfl (by kernel_rfl) Tryz.func3 (by kernel_rfl)
    (of_decide_eq_true (by kernel_rfl)) (by unfold Func.isWrapper; first | (rw [if_pos (by decide +kernel)]; kernel_rfl) | (rw [if_neg (by decide +kernel)]; exact ⟨rfl, rfl⟩))
    (fun os started H enc _ F => by rw [OpenClaim.pre_eq_preRow]; exact lifted os started H enc F)
theorem plain (f : FuncId) (fn : Func) (hf : Tryz.pinned.checked.prog.funcNamed "loop.example/g01924/laws.FnCommits" = some f) (hfn : Tryz.pinned.checked.prog.funcs[f]? = some fn) :
    false = Tryz.pinned.checked.prog.looks [] ∧ ∀ (j : Nat) t, fn.params[j]? = some t → Tryz.pinned.checked.prog.wantsStandIn t = false := by
  obtain rfl : f = 3 := Option.some.inj ((show Tryz.prog.funcNamed "loop.example/g01924/laws.FnCommits" = some 3 by kernel_rfl).symm.trans hf) |>.symm
  obtain rfl : fn = Tryz.f3 := (Option.some.inj (Tryz.func3.symm.trans hfn)).symm
  refine ⟨by kernel_rfl, fun j t ht => ?_⟩
  rw [Tryz.params3] at ht
  have hm : t ∈ [22] := by simpa using Array.mem_of_getElem? ht
  have hall : ([22].all fun u => !Tryz.prog.wantsStandIn u) = true := by kernel_rfl
  exact (show Tryz.prog.wantsStandIn t = false by simpa using List.all_eq_true.1 hall t hm)

/-- THE CARD -/
theorem card : Rows.FnCommitsCardSaid :=
  Claim7.holds_tied_plain_at .later [] _ _ _ _ said (fun _ h => by cases h) (by kernel_rfl) (fun _ h => by cases h) fnCommits_row_tie rfl ⟨rfl, rfl⟩ (by kernel_rfl) rfl plain (by kernel_rfl)
#print axioms card
end Go.Proofs.YtigbknmiidhblaaGreatDoor.fnCommits
