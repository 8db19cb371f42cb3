/- slices.DeleteFunc on a row of the call's own; the program's StaleReads. -/
import Derived.Test.YtajllccgfhminaaSs
import Derived.Test.YtajllccgfhminaaRo
namespace Go.Proofs.Ytajllccgfhminaa.df
open Go.ChangeShapes Go.WideShapes Go.ChangeAt Go.RowKit
open Go.Proofs.Ytajllccgfhminaa.el2 Go.Proofs.Ytajllccgfhminaa.tx Go.Proofs.Ytajllccgfhminaa.seq Go.Proofs.Ytajllccgfhminaa.tv Go.Proofs.Ytajllccgfhminaa.tf Go.Proofs.Ytajllccgfhminaa.rx Go.Proofs.Ytajllccgfhminaa.ri Go.Proofs.Ytajllccgfhminaa.ap Go.Proofs.Ytajllccgfhminaa.bx Go.Proofs.Ytajllccgfhminaa.cl Go.Proofs.Ytajllccgfhminaa.ro Go.Proofs.Ytajllccgfhminaa.ss
open Go.Proofs.Ytajllccgfhminaa.vers (new2)
open Go.Proofs.Ytajllccgfhminaa.sl (Ver)
open Go.Proofs.Ytajllccgfhminaa.st (Rs)
open Go.Proofs.Ytajllccgfhminaa.val (stB)
set_option linter.unusedVariables false
set_option linter.unusedSimpArgs false
/-- the first place where p holds -/
def FirstAt (p : E2 → Bool) (l : List E2) (z : Int) : Prop :=
  (z = -1 ∧ ∀ (j : Nat) (y : E2), l[j]? = some y → (!p y) = true) ∨ (∃ (k : Nat) (y : E2), z = k ∧ l[k]? = some y ∧ p y = true ∧ ∀ (j : Nat) (y : E2), j < k → l[j]? = some y → (!p y) = true)
set_option maxRecDepth 100000 in
set_option maxHeartbeats 1600000 in
theorem lib_index2 {w : World} {B n c base : Nat} {A : Option Addr} {l : List E2} (g : Nat) (sb : Nat) (p : E2 → Bool) (eg : ∀ args w, (callFunc g args).run Try.prog w = .ok (.enter g args) w)
    (hp : ∀ (W : World) (k : Nat) (y : E2), l[k]? = some y → Below base w W → Calls Try.prog g #[.pointer (some ⟨sb, 0, none⟩), .agg #[.int .i64 y.a, .int .i64 y.b]] W fun e w' => e = .returned (.bool (p y)) ∧ Below W.heap.size W w')
    (hn : n ≤ 140737488355328) (h1 : Vs w B A n l) (hB : B ≤ w.heap.size) (hbase : base ≤ w.heap.size) :
    Calls Try.prog 116 #[.slice A n c, .func (.func g) #[.pointer (some ⟨sb, 0, none⟩)] #[]] w fun e w' => (∃ z : Int, e = .returned (.int .i64 z) ∧ FirstAt p l z) ∧ Below w.heap.size w w' := by
  have H1 := Lib.hid h1
  have hln := h1.1
  have HP := Lib.hid hp
  clear h1 hp
  go_enter Try.func116, Try.ntmps116
  go_wp2_with fail
  go_loopw [5, 8] (fun _ i wr => ∃ k : Nat, k ≤ n ∧ i = .int .i64 k ∧ (∀ (j : Nat) (y : E2), j < k → l[j]? = some y → (!p y) = true) ∧ Below w.heap.size w wr) (fun _ i _ => n - (intOf i).toNat)
  case atStart => exact ⟨0, by omega, rfl, fun j y h => absurd h (by omega), Below.refl _ _⟩
  case round =>
    obtain ⟨k, hk, rfl, hP, hb⟩ := hrel
    have HQ := Lib.hid hP
    have HB := Lib.hid hb
    clear hP
    by_cases hlt : k < n
    · obtain ⟨b, o, y, rfl, hbB, hx, a0, a1⟩ := (H1.out.below (below_le hb hB)).at_ hlt
      have HX := Lib.hid hx
      clear hb hx
      generalize hpy : p y = q
      have HPY := Lib.hid hpy
      clear hpy
      cases q with
      | true =>
        go_wp2_with (go_at_fn g; refine (HP.out _ k y HX.out (below_le HB.out hbase)).mono ?_; rintro e w' ⟨rfl, hb'⟩; rw [HPY.out])
        go_ret
        exact ⟨⟨k, rfl, .inr ⟨k, y, rfl, HX.out, HPY.out, HQ.out⟩⟩, HB.out.trans (hb'.mono HB.out.size)⟩
      | false =>
        go_wp2_with (go_at_fn g; refine (HP.out _ k y HX.out (below_le HB.out hbase)).mono ?_; rintro e w' ⟨rfl, hb'⟩; rw [HPY.out])
        go_roundw
        case rel => exact ⟨k + 1, by omega, by go_num, all_step (p := fun y => !p y) HQ.out HX.out (by rw [HPY.out]; rfl), HB.out.trans (hb'.mono HB.out.size)⟩
        case measure => simp [intOf]; omega
    · clear hb
      obtain rfl : n = k := by omega
      go_wp2_with fail
      go_ret
      exact ⟨⟨-1, rfl, .inl ⟨rfl, fun j y hy => HQ.out j y (by have := lt_get hy; omega) hy⟩⟩, HB.out⟩
theorem filter_all {p : E2 → Bool} {l : List E2} (h : ∀ (j : Nat) (y : E2), l[j]? = some y → (!p y) = true) : l.filter (fun y => !p y) = l := by
  rw [List.filter_eq_self]
  intro y hy
  obtain ⟨j, hj, rfl⟩ := List.getElem_of_mem hy
  exact h j _ (List.getElem?_eq_getElem hj)
theorem filter_first {p : E2 → Bool} {l : List E2} {k : Nat} {y : E2} (hx : l[k]? = some y) (hy : p y = true) (h : ∀ (j : Nat) (y : E2), j < k → l[j]? = some y → (!p y) = true) : (l.take (k + 1)).filter (fun y => !p y) = l.take k := by
  rw [List.take_add_one, hx, List.filter_append, filter_all (l := l.take k) fun j z hz => ?_]
  · simp [hy]
  · rw [List.getElem?_take] at hz
    split at hz
    · exact h j z (by assumption) hz
    · cases hz
/-- the state of the loop: what is kept stands in front, what is to come stands where it stood -/
structure Del (p : E2 → Bool) (l r : List E2) (i j : Nat) : Prop where
  len : r.length = l.length
  lt : i + 1 ≤ j
  le : j ≤ l.length
  front : r.take i = (l.take j).filter (fun y => !p y)
  back : ∀ q, j ≤ q → r[q]? = l[q]?
theorem del_start {p : E2 → Bool} {l : List E2} {k : Nat} {y : E2} (hx : l[k]? = some y) (hy : p y = true) (h : ∀ (j : Nat) (y : E2), j < k → l[j]? = some y → (!p y) = true) : Del p l l k (k + 1) :=
  ⟨rfl, Nat.le_refl _, lt_get hx, (filter_first hx hy h).symm, fun _ _ => rfl⟩
theorem del_skip {p : E2 → Bool} {l r : List E2} {i j : Nat} {y : E2} (h : Del p l r i j) (hx : l[j]? = some y) (hy : p y = true) : Del p l r i (j + 1) :=
  ⟨h.len, by have := h.lt; omega, lt_get hx, by rw [h.front, List.take_add_one, hx]; simp [hy], fun q hq => h.back q (by omega)⟩
theorem del_keep {p : E2 → Bool} {l r : List E2} {i j : Nat} {y : E2} (h : Del p l r i j) (hx : l[j]? = some y) (hy : p y = false) : Del p l (r.set i y) (i + 1) (j + 1) := by
  have h1 := h.lt
  have h2 := h.len
  have h3 := lt_get hx
  refine ⟨by rw [List.length_set]; exact h2, by omega, h3, ?_, fun q hq => ?_⟩
  · rw [List.take_add_one, List.take_set_of_le (by omega), h.front, List.getElem?_set_self (by omega), List.take_add_one, hx]
    simp [hy]
  · rw [List.getElem?_set_ne (by omega)]
    exact h.back q (by omega)
theorem del_end {p : E2 → Bool} {l r : List E2} {i : Nat} (h : Del p l r i l.length) : r.take i = l.filter (fun y => !p y) := by rw [h.front, List.take_length]
theorem zero_rm : ∀ w : World, (zeroValue 37).run Try.prog w = .ok (.agg #[.int .i64 0, .int .i64 0]) w := fun _ => by kernel_rfl
set_option maxRecDepth 100000 in
set_option maxHeartbeats 3200000 in
theorem lib_delete {w : World} {n c base blk : Nat} {l : List E2} (g : Nat) (sb : Nat) (p : E2 → Bool) (eg : ∀ args w, (callFunc g args).run Try.prog w = .ok (.enter g args) w)
    (hp : ∀ (W : World) (k : Nat) (y : E2), l[k]? = some y → Below base w W → Calls Try.prog g #[.pointer (some ⟨sb, 0, none⟩), .agg #[.int .i64 y.a, .int .i64 y.b]] W fun e w' => e = .returned (.bool (p y)) ∧ Below W.heap.size W w')
    (hn : n ≤ 140737488355328) (hln : l.length = n) (hr : Rw w 37 blk c l) (hbase : base ≤ blk) :
    Calls Try.prog 70 #[.slice (some ⟨blk, 0, none⟩) n c, .func (.func g) #[.pointer (some ⟨sb, 0, none⟩)] #[]] w fun e w' => e = .returned (.slice (some ⟨blk, 0, none⟩) (l.filter fun y => !p y).length c) ∧ Rw w' 37 blk c (l.filter fun y => !p y) ∧ Below base w w' := by
  have HP := Lib.hid hp
  have HR := Lib.hid hr
  have hlt0 := hr.lt
  have hcap : n ≤ c := by obtain ⟨_, _, h, _⟩ := id hr; omega
  have hvs : Vs w w.heap.size (some ⟨blk, 0, none⟩) n l := ⟨hln, fun _ => ⟨blk, 0, rfl, hlt0, hr.at_⟩⟩
  have HV := Lib.hid hvs
  have HLN := Lib.hid hln
  clear hp hr hvs hln
  go_enter Try.func70, Try.ntmps70
  go_wp2_with fail
  refine (lib_index2 (c := c) (base := base) g sb p eg HP.out hn HV.out (Nat.le_refl _) (by omega)).mono ?_
  rintro e W1 ⟨⟨z, rfl, hz⟩, hb⟩
  have HB1 := Lib.hid (below_le hb (show base ≤ w.heap.size by omega))
  have R1 := Lib.hid (Rw.of_block HR.out (hb.block blk hlt0))
  have hs1 := hb.size
  clear hb
  rcases hz with ⟨rfl, hz⟩ | ⟨k, y, rfl, hx, hy, hz⟩
  · have HF : Hid ((l.filter fun y => !p y) = l) := Lib.hid (filter_all hz)
    clear hz
    go_wp2_with fail
    go_ret
    rw [HF.out]
    exact ⟨by rw [HLN.out]; rfl, R1.out, HB1.out⟩
  have D1 := Lib.hid (del_start hx hy hz)
  have hk : k < n := by have := lt_get hx; have := HLN.out; omega
  have tk : ((k : Int) == -1) = false := by simp
  clear hx hy hz
  go_wp2_with fail
  go_loopw [5, 6, 7] (fun i j _ wr => ∃ (a b : Nat) (r : List E2), i = .int .i64 a ∧ j = .int .i64 b ∧ Del p l r a b ∧ Rw wr 37 blk c r ∧ Below base w wr ∧ blk < wr.heap.size) (fun _ j _ _ => n - (intOf j).toNat)
  case atStart => exact ⟨k, k + 1, l, rfl, by go_num, D1.out, R1.out, HB1.out, by omega⟩
  case round =>
    obtain ⟨a, b, r, rfl, rfl, hD, hR, hB, hsz⟩ := hrel
    have hab := hD.lt
    have hbn : b ≤ n := by have := hD.le; have := HLN.out; omega
    have hrl : r.length = n := by rw [hD.len]; exact HLN.out
    have DD := Lib.hid hD
    have RR := Lib.hid hR
    have BB := Lib.hid hB
    have HRL := Lib.hid hrl
    clear hD hR hB hrl tk
    by_cases hlt : b < n
    · have hrb := DD.out.back b (Nat.le_refl _)
      obtain ⟨y, hy⟩ : ∃ y, l[b]? = some y := ⟨_, List.getElem?_eq_getElem (by have := HLN.out; omega)⟩
      obtain ⟨a0, a1⟩ := RR.out.at_ b y (hrb.trans hy)
      have HY := Lib.hid hy
      simp only [Nat.zero_add] at a0 a1
      clear hrb hy
      go_wp2_with fail
      have hbx := boxed wr y 37
      have hbb := BB.out.trans ((new1 wr (.cells #[.int .i64 y.a, .int .i64 y.b] 37)).mono (by omega))
      have hR2 := Rw.of_block RR.out ((new1 wr (.cells #[.int .i64 y.a, .int .i64 y.b] 37)).block blk hsz)
      have hsz2 : (wr.alloc (.cells #[.int .i64 y.a, .int .i64 y.b] 37)).heap.size = wr.heap.size + 1 := by simp
      generalize wr.alloc _ = W2 at hbx hbb hR2 hsz2 ⊢
      obtain ⟨x0, x1⟩ := atFlat hbx
      have X2 := Lib.hid hbx
      have B2 := Lib.hid hbb
      have R2 := Lib.hid hR2
      clear hbx hbb hR2 a0 a1
      generalize hpy : p y = q
      have HPY := Lib.hid hpy
      clear hpy
      cases q with
      | true =>
        go_wp2_with (go_at_fn g; refine (HP.out _ b y HY.out B2.out).mono ?_; rintro e w3 ⟨rfl, hb'⟩; rw [HPY.out])
        have R3 := Lib.hid (Rw.of_block R2.out (hb'.block blk (by omega)))
        have B3 := Lib.hid (B2.out.trans (hb'.mono (by omega)))
        have hs3 := hb'.size
        go_roundw
        case rel => exact ⟨a, b + 1, r, rfl, by go_num, del_skip DD.out HY.out HPY.out, R3.out, B3.out, by omega⟩
        case measure => simp [intOf]; omega
      | false =>
        go_wp2_with (go_at_fn g; refine (HP.out _ b y HY.out B2.out).mono ?_; rintro e w3 ⟨rfl, hb'⟩; rw [HPY.out]; have R3 := Lib.hid (Rw.of_block R2.out (hb'.block blk (by omega))); have B3 := Lib.hid (B2.out.trans (hb'.mono (by omega))); have hs3 := hb'.size; obtain ⟨y0, y1⟩ := atFlat (X2.out.keep (B := W2.heap.size) (by omega) hb'); obtain ⟨u0, q0⟩ := Rw.cells R3.out (i := a * 2) (by omega); obtain ⟨u1, q1⟩ := Rw.cells R3.out (i := a * 2 + 1) (by omega); have z0 := Rw.fz R3.out (a * 2); have z1 := Rw.fz R3.out (a * 2 + 1); clear hb' x0 x1)
        have R4 := Lib.hid (Rw.put R3.out (k := a) (by have := HRL.out; omega) y)
        have O4 := ((Off.refl blk w3).setCell (p := ⟨blk, a * 2, none⟩) rfl (.int .i64 y.a)).setCell (p := ⟨blk, a * 2 + 1, none⟩) rfl (.int .i64 y.b)
        have B4 := Lib.hid (B3.out.trans (O4.below hbase))
        have hs4 := O4.size
        clear O4 y0 y1 q0 q1 z0 z1
        go_roundw
        case rel => exact ⟨a + 1, b + 1, r.set a y, by go_num, by go_num, del_keep DD.out HY.out HPY.out, R4.out, B4.out, by omega⟩
        case measure => simp [intOf]; omega
    · obtain rfl : n = b := by omega
      have hE : r.take a = l.filter (fun y => !p y) := del_end (by rw [HLN.out]; exact DD.out)
      have hEl : (l.filter fun y => !p y).length = a := by rw [← hE, List.length_take, HRL.out]; omega
      have HE := Lib.hid hE
      have HEL := Lib.hid hEl
      have hca : ¬ c = a := by omega
      obtain ⟨w5, hcl, hr5, ho5⟩ := run_clear_e2 (P := Try.prog) (c := c - a) wr 24 37 0 Try.underlying24 zero_rm RR.out (i := a) (n := n - a) (by have := HRL.out; omega) (by rw [HRL.out])
      have R5 := Lib.hid hr5
      have B5 := Lib.hid (BB.out.trans (ho5.below hbase))
      clear hE hEl hr5 ho5
      go_wp2_with fail
      go_ret
      rw [HEL.out, ← HE.out]
      exact ⟨rfl, R5.out, B5.out⟩
theorem lib_delete0 {w : World} (g : Nat) (sb : Nat) (eg : ∀ args w, (callFunc g args).run Try.prog w = .ok (.enter g args) w) :
    Calls Try.prog 70 #[.slice none 0 0, .func (.func g) #[.pointer (some ⟨sb, 0, none⟩)] #[]] w fun e w' => e = .returned (.slice none 0 0) ∧ Below w.heap.size w w' := by
  have HC := Lib.hid (lib_index2 (w := w) (n := 0) (c := 0) (base := w.heap.size) (l := []) g sb (fun _ => false) eg (fun W k y h => by simp at h) (by omega) (Vs.nil_ w w.heap.size none) (Nat.le_refl _) (Nat.le_refl _))
  go_enter Try.func70, Try.ntmps70
  go_wp2_with fail
  refine HC.out.mono ?_
  rintro e W1 ⟨⟨z, rfl, hz⟩, hb⟩
  have HB1 := Lib.hid hb
  rcases hz with ⟨rfl, hz⟩ | ⟨k, y, rfl, hx, hy, hz⟩
  · clear hz hb
    go_wp2_with fail
    go_ret
    exact ⟨rfl, HB1.out⟩
  · simp at hx
theorem ver_le {C : List (List Ver)} {y : E2} (hst : stB C = true) (h1 : 0 ≤ y.a) (h2 : y.a ≤ 5) (hh : hasV C y = true) : (verOf C y).e ≤ 1000 := by
  have h6 := val.st_six hst
  obtain ⟨l, hl⟩ : ∃ l, C[y.a.toNat]? = some l := ⟨_, List.getElem?_eq_getElem (by omega)⟩
  have hc := val.okL_ch_of (val.st_ok hst hl)
  unfold hasV at hh
  rw [ch_at hl] at hh
  obtain ⟨j, hj, hjl⟩ := fnd_lt (of_decide_eq_true hh)
  obtain ⟨v, hv⟩ : ∃ v, l[j]? = some v := ⟨_, List.getElem?_eq_getElem hjl⟩
  rw [ver_at hl hj hv]
  unfold ch.chB at hc
  have hp := @of_decide_eq_true _ (Classical.propDecidable _) hc
  have ho := hp.1 j v hv
  unfold ch.okV vers.vB at ho
  have := of_decide_eq_true ho
  unfold vers.vP at this
  omega
theorem stale_eq {C : List (List Ver)} {x : Hd} {R S : List E2} (h : rexB C x R S = true) : (R.filter fun y => !decide ((verOf C y).e = 1000)) = staleL C x R S := by
  unfold staleL
  rw [if_pos h]
  obtain ⟨hst, htx, hall⟩ := rex_parts h
  apply List.filter_congr
  intro y hy
  obtain ⟨k, hk, rfl⟩ := List.getElem_of_mem hy
  have hx := List.getElem?_eq_getElem hk
  have hkey := key_of htx hx
  have hle := ver_le hst hkey.1 hkey.2 (all_at hall hx)
  unfold stP
  by_cases he : (verOf C R[k]).e = 1000
  · simp [he]
  · have : (verOf C R[k]).e < 1000 := by omega
    simp [he, this]
theorem enters_cur : ∀ (args : Array Value) (w : World), (callFunc 72 args).run Try.prog w = .ok (.enter 72 args) w := enters_of Try.func72 (by kernel_rfl) rfl
set_option maxRecDepth 100000 in
set_option maxHeartbeats 3200000 in
theorem impl_stale {w : World} {B n c n2 c2 N cN : Nat} {A A2 D : Option Addr} {R S : List E2} {C : List (List Ver)} (x : Hd) (hn : n ≤ 2097152) (hn2 : n2 ≤ 2097152) (hN : N ≤ 2097152) (h1 : Vs w B A n R) (h2 : Vs w B A2 n2 S) (h3 : Rs w B D N C) (hB : B ≤ w.heap.size) :
    Calls Try.prog 16 #[.agg #[.slice D N cN], .agg #[.int .i64 x.i, .int .i64 x.s, .int .i64 x.t, .int .i64 x.b, .int .i64 x.l, .int .i64 x.h, .int .i64 x.c, .slice A n c, .slice A2 n2 c2]] w fun e w' => ∃ A' c', e = .returned (.slice A' (staleL C x R S).length c') ∧ w'.ownsRow w.heap.size 37 2 (.slice A' (staleL C x R S).length c') (staleL C x R S).length (flat (staleL C x R S)) ∧ Below w.heap.size w w' := by
  have H1 := Lib.hid h1
  have H2 := Lib.hid h2
  have H3 := Lib.hid h3
  have hln := h1.1
  have HLN := Lib.hid hln
  clear h1 h2 h3 hln
  have hmf : ∀ (fn : Fn) (first cap : Array Value) (w : World), (Instr.makeFunc fn first cap).run Try.prog w = .ok (.func fn first cap) w := fun _ _ _ _ => rfl
  go_enter Try.func16, Try.ntmps16
  go_wp2_with fail
  have hL := LS.mk2 w (.slice D N cN) 40 27 x A n c A2 n2 c2
  generalize ((w.alloc _).alloc _) = W0 at hL ⊢
  have L0 := Lib.hid hL
  have c0 := hL.st
  obtain ⟨t0, t1, t2, t3, t4, t5, t6, t7, t8⟩ := hL.tb
  clear hL
  go_wp2_with fail
  refine (impl_rex x (by omega) (by omega) (by omega) (H1.out.below (below_le L0.out.bel hB)) (H2.out.below (below_le L0.out.bel hB)) (H3.out.below (below_le L0.out.bel hB)) (by have := L0.out.size; omega)).mono ?_
  rintro e W1 ⟨rfl, hb⟩
  have L1 := Lib.hid (L0.out.call hb)
  clear hb c0 t0 t1 t2 t3 t4 t5 t6 t7 t8
  rcases hrx : rexB C x R S with _ | _
  · have HE : Hid (staleL C x R S = []) := Lib.hid (by simp [staleL, hrx])
    clear hrx
    go_wp2_with fail
    go_ret
    rw [HE.out]
    exact ⟨none, 0, rfl, World.ownsRow_nil _ _ _ _, L1.out.bel⟩
  have HRX := Lib.hid hrx
  have HE := Lib.hid (stale_eq hrx)
  clear hrx
  obtain ⟨t0, t1, t2, t3, t4, t5, t6, t7, t8⟩ := L1.out.tb
  clear t0 t1 t2 t3 t4 t5 t6 t8
  go_wp2_with fail
  refine (clone_r hn (H1.out.below (below_le L1.out.bel hB)) (by have := L1.out.size; omega)).mono ?_
  rintro e W2 ⟨A', c', rfl, ho, hb⟩
  have L2 := Lib.hid (L1.out.call hb)
  have hs1 := L1.out.size
  clear hb t7
  obtain ⟨_, ⟨hv, hR⟩ | ⟨blk, cap, hv, hbase, hrw⟩⟩ := own_rw ho
  · injection hv with e1 e2 e3
    subst e1 e2 e3
    have HN : Hid (staleL C x R S = []) := Lib.hid (by rw [← HE.out, hR]; rfl)
    clear ho hR
    go_wp2_with fail
    refine (lib_delete0 72 w.heap.size enters_cur).mono ?_
    rintro e W3 ⟨rfl, hb⟩
    have L3 := Lib.hid (L2.out.call hb)
    clear hb
    go_wp2_with fail
    go_ret
    rw [HN.out]
    exact ⟨none, 0, rfl, World.ownsRow_nil _ _ _ _, L3.out.bel⟩
  · injection hv with e1 e2 e3
    subst e1 e3
    have RW := Lib.hid hrw
    clear ho hrw e2
    go_wp2_with fail
    refine (lib_delete (w := W2) (base := w.heap.size + 2) (l := R) 72 w.heap.size (fun y => decide ((verOf C y).e = 1000)) enters_cur ?_ (by omega) HLN.out RW.out (by omega)).mono ?_
    · intro W k y hx hbW
      obtain ⟨hst, htx, hall⟩ := rex_parts HRX.out
      have hkey := key_of htx hx
      have h6 : N = 6 := by have := val.st_six hst; rw [H3.out.1] at this; exact this
      have L3 := ls_grown L2.out hbW
      exact impl_cur y w.heap.size (all_at hall hx) (by have := L3.size; omega) L3.st hkey.1 (by omega) (H3.out.below (below_le L3.bel hB)) (by have := L3.size; omega)
    · rintro e W3 ⟨rfl, hr3, hb3⟩
      rw [HE.out]
      rw [HE.out] at hr3
      have L3 := Lib.hid (ls_grown L2.out hb3)
      have O3 := Lib.hid (Rw.own hr3 (show w.heap.size ≤ blk by omega))
      clear hr3 hb3
      go_wp2_with fail
      go_ret
      exact ⟨_, _, rfl, O3.out, L3.out.bel⟩
end Go.Proofs.Ytajllccgfhminaa.df
