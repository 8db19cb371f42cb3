/- Chapter 6 of the program: the version that a mark names, slices.IndexFunc and ContainsFunc at marks, ReadsExist: what each answers; nothing that was there is written. -/
import Derived.Test.YtbnkkgjkhpbgiaaGreatDoorRq
import Derived.Shelf.Abstract
namespace Go.Proofs.YtbnkkgjkhpbgiaaGreatDoor.ri
open Go.ChangeShapes Go.WideShapes Go.ChangeAt Go.RowKit
open Go.Proofs.YtbnkkgjkhpbgiaaGreatDoor.el2 Go.Proofs.YtbnkkgjkhpbgiaaGreatDoor.tx Go.Proofs.YtbnkkgjkhpbgiaaGreatDoor.seq Go.Proofs.YtbnkkgjkhpbgiaaGreatDoor.tv Go.Proofs.YtbnkkgjkhpbgiaaGreatDoor.tf Go.Proofs.YtbnkkgjkhpbgiaaGreatDoor.rx
open Go.Proofs.YtbnkkgjkhpbgiaaGreatDoor.vers (new2)
open Go.Proofs.YtbnkkgjkhpbgiaaGreatDoor.sl (Ver)
open Go.Proofs.YtbnkkgjkhpbgiaaGreatDoor.st (Rs)
open Go.Proofs.YtbnkkgjkhpbgiaaGreatDoor.val (stB)
open Go.Proofs.YtbnkkgjkhpbgiaaGreatDoor.find (fndI)
set_option linter.unusedVariables false
set_option linter.unusedSimpArgs false
/-- what versionOf hands back -/
def VO (C : List (List Ver)) (y : E2) (B : Nat) (W : World) (e : Ending) : Prop :=
  (hasV C y = false ∧ e = .returned (.pointer none)) ∨ (hasV C y = true ∧ ∃ b o, e = .returned (.pointer (some ⟨b, o, none⟩)) ∧ b < B ∧ Go.Proofs.YtbnkkgjkhpbgiaaGreatDoor.sl.At W b o (verOf C y))
set_option maxRecDepth 100000 in
set_option maxHeartbeats 3200000 in
theorem impl_vof {w : World} {B N cN : Nat} {D : Option Addr} {C : List (List Ver)} (y : E2) (sb : Nat) (hsb : sb < w.heap.size) (hs : w.cell? ⟨sb, 0, none⟩ = some (.slice D N cN)) (hy : 0 ≤ y.a) (hy2 : y.a < (N : Int)) (h3 : Rs w B D N C) (hB : B ≤ w.heap.size) :
    Calls Tryz.prog 55 #[.pointer (some ⟨sb, 0, none⟩), .agg #[.int .i64 y.a, .int .i64 y.b]] w fun e w' => VO C y B w' e ∧ Below w.heap.size w w' := by
  have s4 : y.a.toNat < N := by omega
  obtain ⟨b2, o2, l, A', n', c', rfl, hb2, hl, d0, hn', hv⟩ := h3.at_ s4
  have HL := Lib.hid hl
  clear h3 hl
  generalize hz : fndI y.b l 0 = z
  have HZ := Lib.hid hz
  clear hz
  go_enter Tryz.func55, Tryz.ntmps55
  go_wp2_with fail
  have hb := new1 w (.cells #[.int .i64 y.a, .int .i64 y.b] 38)
  have mb := boxed w y 38
  have hs' := st.up (.cells #[.int .i64 y.a, .int .i64 y.b] 38) hs hsb
  have d0' := st.up (.cells #[.int .i64 y.a, .int .i64 y.b] 38) d0 (show b2 < w.heap.size by omega)
  have hv' := hv.below (below_le hb hB)
  clear hs d0 hv
  generalize w.alloc _ = W0 at hb mb hs' d0' hv' ⊢
  have HV := Lib.hid hv'
  have HB := Lib.hid hb
  obtain ⟨m0, m1⟩ := atFlat mb
  clear hv' hb mb
  go_quiet (fail)
  go_wp2_with fail
  refine (find.impl_find y.b hn' (vsd HV.out _) (Nat.le_trans hB HB.out.size)).mono ?_
  rintro e W1 ⟨rfl, hb1⟩
  rw [HZ.out]
  have HB1 : Hid (Below w.heap.size w W1) := Lib.hid ((Off1 HB.out _).trans (hb1.mono HB.out.size))
  have HV1 := Lib.hid ((vsd HV.out _).below (below_le hb1 (Nat.le_trans hB HB.out.size)))
  clear hb1 m0 m1 hs' d0'
  by_cases hzz : 0 ≤ z
  · have t : decide (z < 0) = false := decide_eq_false (by omega)
    obtain ⟨j, hj, hjl⟩ := fnd_lt (c := y.b) (l := l) (by rw [HZ.out]; exact hzz)
    have hj2 : z = (j : Int) := by rw [← HZ.out]; exact hj
    subst hj2
    have hln := HV.out.1
    obtain ⟨b, o, v, rfl, hbB, hx, a0, a1, a2, a3, a4⟩ := HV1.out.at_ (k := j) (by omega)
    have hjn : (j : Int) < (n' : Int) := by omega
    have HA : Hid (Go.Proofs.YtbnkkgjkhpbgiaaGreatDoor.sl.At W1 b (o + j * 5) v) := Lib.hid ⟨a0, a1, a2, a3, a4⟩
    have HX := Lib.hid hx
    clear a0 a1 a2 a3 a4 hx hln hjl
    go_wp2_with fail
    go_ret
    exact ⟨Or.inr ⟨has_at HL.out HZ.out (decide_eq_true hzz), b, o + j * 5, rfl, hbB, by rw [ver_at HL.out HZ.out HX.out]; exact HA.out⟩, HB1.out⟩
  · have t : decide (z < 0) = true := decide_eq_true (by omega)
    go_wp2_with fail
    go_ret
    exact ⟨Or.inl ⟨has_at HL.out HZ.out (decide_eq_false (by omega)), rfl⟩, HB1.out⟩
set_option maxHeartbeats 1600000 in
theorem impl_lacks {w : World} {B N cN : Nat} {D : Option Addr} {C : List (List Ver)} (y : E2) (sb : Nat) (hsb : sb < w.heap.size) (hs : w.cell? ⟨sb, 0, none⟩ = some (.slice D N cN)) (hy : 0 ≤ y.a) (hy2 : y.a < (N : Int)) (h3 : Rs w B D N C) (hB : B ≤ w.heap.size) :
    Calls Tryz.prog 52 #[.pointer (some ⟨sb, 0, none⟩), .agg #[.int .i64 y.a, .int .i64 y.b]] w fun e w' => e = .returned (.bool (!hasV C y)) ∧ Below w.heap.size w w' := by
  have H3 := Lib.hid h3
  clear h3
  go_enter Tryz.func52, Tryz.ntmps52
  go_wp2_with fail
  have hb := new1 w (.cells #[.int .i64 y.a, .int .i64 y.b] 38)
  have mb := boxed w y 38
  have hs' := st.up (.cells #[.int .i64 y.a, .int .i64 y.b] 38) hs hsb
  clear hs
  generalize w.alloc _ = W0 at hb mb hs' ⊢
  have HB := Lib.hid hb
  obtain ⟨m0, m1⟩ := atFlat mb
  have hsz := hb.size
  clear hb mb
  go_wp2_with fail
  refine (impl_vof y sb (by omega) hs' hy hy2 (H3.out.below (below_le HB.out hB)) (by omega)).mono ?_
  rintro e W1 ⟨⟨hh, rfl⟩ | ⟨hh, b, o, rfl, hbB, hA⟩, hb1⟩
  · have HH := Lib.hid hh
    have HB1 : Hid (Below w.heap.size w W1) := Lib.hid (HB.out.trans (hb1.mono HB.out.size))
    clear hb1 hh
    go_wp2_with fail
    go_ret
    exact ⟨by rw [HH.out]; rfl, HB1.out⟩
  · have HH := Lib.hid hh
    have HB1 : Hid (Below w.heap.size w W1) := Lib.hid (HB.out.trans (hb1.mono HB.out.size))
    clear hb1 hA hh
    go_wp2_with fail
    go_ret
    exact ⟨by rw [HH.out]; rfl, HB1.out⟩
theorem any_hit {p : E2 → Bool} {l : List E2} {k : Nat} {y : E2} (hx : l[k]? = some y) (h : p y = true) : l.any p = true := by
  rw [List.any_eq_true]
  exact ⟨y, List.mem_of_getElem? hx, h⟩
theorem any_none {p : E2 → Bool} {l : List E2} {n : Nat} (hn : l.length = n) (h : ∀ (j : Nat) (y : E2), j < n → l[j]? = some y → (!p y) = true) : l.any p = false := by
  have h2 := all_good hn h
  rw [List.all_eq_true] at h2
  rw [List.any_eq_false]
  intro x hx
  have := h2 x hx
  simpa using this
set_option maxRecDepth 100000 in
set_option maxHeartbeats 1600000 in
theorem lib_indexf {w : World} {B n c : Nat} {A : Option Addr} {l : List E2} (g : Nat) (sb : Nat) (p : E2 → Bool) (eg : ∀ args w, (callFunc g args).run Tryz.prog w = .ok (.enter g args) w)
    (hp : ∀ (W : World) (k : Nat) (y : E2), l[k]? = some y → Below w.heap.size w W → Calls Tryz.prog g #[.pointer (some ⟨sb, 0, none⟩), .agg #[.int .i64 y.a, .int .i64 y.b]] W fun e w' => e = .returned (.bool (p y)) ∧ Below W.heap.size W w')
    (hn : n ≤ 140737488355328) (h1 : Vs w B A n l) (hB : B ≤ w.heap.size) :
    Calls Tryz.prog 83 #[.slice A n c, .func (.func g) #[.pointer (some ⟨sb, 0, none⟩)] #[]] w fun e w' => (∃ z : Int, e = .returned (.int .i64 z) ∧ decide (0 ≤ z) = l.any p) ∧ Below w.heap.size w w' := by
  have H1 := Lib.hid h1
  have hln := h1.1
  have HP := Lib.hid hp
  clear h1 hp
  go_enter Tryz.func83, Tryz.ntmps83
  go_wp2_with fail
  go_loopw [5, 8] (fun _ i wr => ∃ k : Nat, k ≤ n ∧ i = .int .i64 k ∧ (∀ (j : Nat) (y : E2), j < k → l[j]? = some y → (!p y) = true) ∧ Below w.heap.size w wr) (fun _ i _ => n - (intOf i).toNat)
  case atStart => exact ⟨0, by omega, rfl, fun j y h => absurd h (by omega), Below.refl _ _⟩
  case round =>
    obtain ⟨k, hk, rfl, hP, hb⟩ := hrel
    have HQ := Lib.hid hP
    have HB := Lib.hid hb
    clear hP
    by_cases hlt : k < n
    · obtain ⟨b, o, y, rfl, hbB, hx, a0, a1⟩ := (H1.out.below (below_le hb hB)).at_ hlt
      have HX := Lib.hid hx
      clear hb hx
      generalize hpy : p y = q
      have HPY := Lib.hid hpy
      clear hpy
      cases q with
      | true =>
        go_wp2_with (go_at_fn g; refine (HP.out _ k y HX.out HB.out).mono ?_; rintro e w' ⟨rfl, hb'⟩; rw [HPY.out])
        go_ret
        exact ⟨⟨k, rfl, by rw [any_hit HX.out HPY.out]; exact decide_eq_true (by omega)⟩, HB.out.trans (hb'.mono HB.out.size)⟩
      | false =>
        go_wp2_with (go_at_fn g; refine (HP.out _ k y HX.out HB.out).mono ?_; rintro e w' ⟨rfl, hb'⟩; rw [HPY.out])
        go_roundw
        case rel => exact ⟨k + 1, by omega, by go_num, all_step (p := fun y => !p y) HQ.out HX.out (by rw [HPY.out]; rfl), HB.out.trans (hb'.mono HB.out.size)⟩
        case measure => simp [intOf]; omega
    · clear hb
      obtain rfl : n = k := by omega
      go_wp2_with fail
      go_ret
      exact ⟨⟨-1, rfl, by rw [any_none hln HQ.out]; rfl⟩, HB.out⟩
set_option maxHeartbeats 1600000 in
theorem lib_containsf {w : World} {B n c : Nat} {A : Option Addr} {l : List E2} (g : Nat) (sb : Nat) (p : E2 → Bool) (eg : ∀ args w, (callFunc g args).run Tryz.prog w = .ok (.enter g args) w)
    (hp : ∀ (W : World) (k : Nat) (y : E2), l[k]? = some y → Below w.heap.size w W → Calls Tryz.prog g #[.pointer (some ⟨sb, 0, none⟩), .agg #[.int .i64 y.a, .int .i64 y.b]] W fun e w' => e = .returned (.bool (p y)) ∧ Below W.heap.size W w')
    (hn : n ≤ 140737488355328) (h1 : Vs w B A n l) (hB : B ≤ w.heap.size) :
    Calls Tryz.prog 51 #[.slice A n c, .func (.func g) #[.pointer (some ⟨sb, 0, none⟩)] #[]] w fun e w' => e = .returned (.bool (l.any p)) ∧ Below w.heap.size w w' := by
  have HC := Lib.hid (lib_indexf (c := c) g sb p eg hp hn h1 hB)
  clear hp h1
  go_enter Tryz.func51, Tryz.ntmps51
  go_wp2_with fail
  refine HC.out.mono ?_
  rintro e W1 ⟨⟨z, rfl, hz⟩, hb1⟩
  have HB1 := Lib.hid hb1
  have HZ := Lib.hid hz
  clear hb1 hz
  go_wp2_with fail
  go_ret
  exact ⟨vers.ret_b HZ.out, HB1.out⟩
theorem enters_lacks : ∀ (args : Array Value) (w : World), (callFunc 52 args).run Tryz.prog w = .ok (.enter 52 args) w := enters_of Tryz.func52 (by kernel_rfl) rfl
theorem any_all {C : List (List Ver)} (R : List E2) : (!R.any fun y => !hasV C y) = R.all (hasV C) := by
  rw [List.not_any_eq_all_not]
  congr 1
  funext y
  simp
set_option maxRecDepth 100000 in
set_option maxHeartbeats 3200000 in
theorem impl_rex {w : World} {B n c n2 c2 N cN : Nat} {A A2 D : Option Addr} {R S : List E2} {C : List (List Ver)} (x : Hd) (hn : n ≤ 140737488355328) (hn2 : n2 ≤ 140737488355328) (hN : N ≤ 140737488355328) (h1 : Vs w B A n R) (h2 : Vs w B A2 n2 S) (h3 : Rs w B D N C) (hB : B ≤ w.heap.size) :
    Calls Tryz.prog 24 #[.agg #[.slice D N cN], .agg #[.int .i64 x.i, .int .i64 x.s, .int .i64 x.t, .int .i64 x.b, .int .i64 x.l, .int .i64 x.h, .int .i64 x.c, .slice A n c, .slice A2 n2 c2]] w fun e w' => e = .returned (.bool (rexB C x R S)) ∧ Below w.heap.size w w' := by
  have H1 := Lib.hid h1
  have H2 := Lib.hid h2
  have H3 := Lib.hid h3
  have hln := h1.1
  clear h1 h2 h3
  have hmf : ∀ (fn : Fn) (first cap : Array Value) (w : World), (Instr.makeFunc fn first cap).run Tryz.prog w = .ok (.func fn first cap) w := fun _ _ _ _ => rfl
  go_enter Tryz.func24, Tryz.ntmps24
  go_wp2_with fail
  have hL := LS.mk2 w (.slice D N cN) 26 30 x A n c A2 n2 c2
  generalize ((w.alloc _).alloc _) = W0 at hL ⊢
  have L0 := Lib.hid hL
  have c0 := hL.st
  clear hL
  go_wp2_with fail
  refine (val.impl_store hN (H3.out.below (below_le L0.out.bel hB)) (by have := L0.out.size; omega)).mono ?_
  rintro e W1 ⟨rfl, hb⟩
  have L1 := Lib.hid (L0.out.call hb)
  obtain ⟨t0, t1, t2, t3, t4, t5, t6, t7, t8⟩ := L1.out.tb
  clear hb c0
  rcases hst : stB C with _ | _
  · have HST := Lib.hid hst
    clear hst
    go_wp2_with fail
    go_ret
    exact ⟨vers.ret_b (rex_st HST.out).symm, L1.out.bel⟩
  have HST := Lib.hid hst
  clear hst
  go_wp2_with fail
  refine (tv.impl_tx x hn hn2 (H1.out.below (below_le L1.out.bel hB)) (H2.out.below (below_le L1.out.bel hB)) (by have := L1.out.size; omega)).mono ?_
  rintro e W2 ⟨rfl, hb⟩
  have L2 := Lib.hid (L1.out.call hb)
  clear hb t0 t1 t2 t3 t4 t5 t6 t7 t8
  rcases htx : txB x R S with _ | _
  · have HTX := Lib.hid htx
    clear htx
    go_wp2_with fail
    go_ret
    exact ⟨vers.ret_b (rex_tx HTX.out).symm, L2.out.bel⟩
  have HTX := Lib.hid htx
  clear htx
  obtain ⟨t0, t1, t2, t3, t4, t5, t6, t7, t8⟩ := L2.out.tb
  clear t0 t1 t2 t3 t4 t5 t6 t8
  go_wp2_with fail
  refine (lib_containsf (c := c) 52 w.heap.size (fun y => !hasV C y) enters_lacks ?_ hn (H1.out.below (below_le L2.out.bel hB)) (by have := L2.out.size; omega)).mono ?_
  · intro W k y hx hbW
    have hkey := key_of HTX.out hx
    have h6 : N = 6 := by have := val.st_six HST.out; rw [H3.out.1] at this; exact this
    have L3 := L2.out.call hbW
    exact impl_lacks y w.heap.size (by have := L3.size; omega) L3.st hkey.1 (by omega) (H3.out.below (below_le L3.bel hB)) (by have := L3.size; omega)
  · rintro e W3 ⟨rfl, hb⟩
    have L3 := Lib.hid (L2.out.call hb)
    clear hb t7
    obtain ⟨q, hq⟩ : ∃ q, (R.any fun y => !hasV C y) = q := ⟨_, rfl⟩
    rw [hq]
    have HQ := Lib.hid hq
    clear hq
    go_wp2_with fail
    go_ret
    exact ⟨vers.ret_b (by rw [rex_all HST.out HTX.out, ← any_all, HQ.out]), L3.out.bel⟩
end Go.Proofs.YtbnkkgjkhpbgiaaGreatDoor.ri
