/- The program's apply: it reads and installs in a store of one's own, and puts it back where a chain is full. -/
import Derived.Test.YthbbpfgjbidbhaaGreatDoorXga
import Derived.BigRegion
import Derived.Recover
namespace Go.Proofs.YthbbpfgjbidbhaaGreatDoor.apl
open Go.ChangeShapes Go.WideShapes Go.ChangeAt Go.RowKit
open Go.Proofs.YthbbpfgjbidbhaaGreatDoor.sl Go.Proofs.YthbbpfgjbidbhaaGreatDoor.st Go.Proofs.YthbbpfgjbidbhaaGreatDoor.flat Go.Proofs.YthbbpfgjbidbhaaGreatDoor.os Go.Proofs.YthbbpfgjbidbhaaGreatDoor.oq Go.Proofs.YthbbpfgjbidbhaaGreatDoor.av Go.Proofs.YthbbpfgjbidbhaaGreatDoor.oc Go.Proofs.YthbbpfgjbidbhaaGreatDoor.ist Go.Proofs.YthbbpfgjbidbhaaGreatDoor.cs
open Go.Proofs.YthbbpfgjbidbhaaGreatDoor.el2 (new1 E2)
open Go.Proofs.YthbbpfgjbidbhaaGreatDoor.tx (Hd TB)
open Go.Proofs.YthbbpfgjbidbhaaGreatDoor.tv (wrB)
open Go.Proofs.YthbbpfgjbidbhaaGreatDoor.val (stB)
open Go.Proofs.YthbbpfgjbidbhaaGreatDoor.last (lstS)
open Go.Proofs.YthbbpfgjbidbhaaGreatDoor.find (fndI)
open Go.Proofs.YthbbpfgjbidbhaaGreatDoor.rx (chOf ch_at hasV vsd fnd_lt)
open Go.Proofs.YthbbpfgjbidbhaaGreatDoor.ct (rdV suV nwV atJ rdL wrL onK rdC wrC atJ_at atJ_len rdK wrK insC fitB rdK_step wrK_step Like like_fnd)
set_option linter.unusedVariables false
set_option linter.unusedSimpArgs false
set_option linter.constructorNameAsVariable false
/-! what the walk finds -/
section
variable {C : List (List Ver)} {R S : List E2} {i z h : Int}
theorem all_get {p : E2 → Bool} {l : List E2} (h : l.all p = true) {k : Nat} {m : E2} (hm : l[k]? = some m) : p m = true := by
  rw [List.all_eq_true] at h
  exact h m (List.mem_of_getElem? hm)
theorem get_key {C : List (List Ver)} (h6 : C.length = 6) {a : Int} (h0 : 0 ≤ a) (h5 : a ≤ 5) : ∃ kk : Nat, a = (kk : Int) ∧ kk < 6 ∧ C[kk]? = some (chOf C a) := by
  refine ⟨a.toNat, by omega, by omega, ?_⟩
  have hk : a.toNat < C.length := by omega
  rw [List.getElem?_eq_getElem hk]
  exact congrArg some (ch_at (List.getElem?_eq_getElem hk)).symm
theorem rd_at (hs : stB C = true) (hz : lstS C < z) (hR : ∀ m ∈ R, 0 ≤ m.a ∧ m.a ≤ 5) (hall : R.all (hasV C) = true) {k : Nat} {m : E2} (hm : R[k]? = some m) :
    ∃ (kk : Nat) (l : List Ver) (j : Nat) (x : Ver), m.a = (kk : Int) ∧ kk < 6 ∧ (rdK z C R k)[kk]? = some l ∧ l.length ≤ 50 ∧ 0 < l.length ∧ fndI m.b l 0 = (j : Int) ∧ l[j]? = some x := by
  have hk := Go.Proofs.YthbbpfgjbidbhaaGreatDoor.el2.lt_get hm
  obtain ⟨h1, h2⟩ := Go.Proofs.YthbbpfgjbidbhaaGreatDoor.cq.rd_all hs hz hR k (by omega)
  obtain ⟨m0, m5⟩ := hR m (List.mem_of_getElem? hm)
  have h6 := Go.Proofs.YthbbpfgjbidbhaaGreatDoor.val.st_six hs
  obtain ⟨kk, e1, e2, e3⟩ := get_key (C := rdK z C R k) (by rw [h1]; exact h6) m0 m5
  have hL := h2 m.a m0 m5
  obtain ⟨l0, hl0, hch0, e0⟩ := Go.Proofs.YthbbpfgjbidbhaaGreatDoor.em.chain_key hs m0 m5
  have hlen : l0.length ≤ 50 := Go.Proofs.YthbbpfgjbidbhaaGreatDoor.val.okL_len (Go.Proofs.YthbbpfgjbidbhaaGreatDoor.val.st_ok hs hl0)
  have hh := all_get hall hm
  unfold hasV at hh
  rw [decide_eq_true_eq] at hh
  have hf := like_fnd (c := m.b) 0 hL
  rw [← hf] at hh
  obtain ⟨j, hj, hjl⟩ := fnd_lt hh
  have hl1 := hL.1
  rw [e0] at hl1
  exact ⟨kk, _, j, _, e1, e2, e3, by omega, by omega, hj, List.getElem?_eq_getElem hjl⟩
theorem wr_at (hs : stB C = true) (hz : lstS C < z) (hR : ∀ m ∈ R, 0 ≤ m.a ∧ m.a ≤ 5) (hS : wrB S = true) {k : Nat} {m : E2} (hm : S[k]? = some m) :
    ∃ (kk : Nat) (l : List Ver), m.a = (kk : Int) ∧ kk < 6 ∧ (wrK i z h (rdK z C R R.length) S k)[kk]? = some l ∧ l.length ≤ 50 ∧ 0 < l.length ∧ l.length = (chOf C m.a).length := by
  have hk := Go.Proofs.YthbbpfgjbidbhaaGreatDoor.el2.lt_get hm
  obtain ⟨h1, h2⟩ := Go.Proofs.YthbbpfgjbidbhaaGreatDoor.cq.rd_all hs hz hR R.length (Nat.le_refl _)
  have h6 := Go.Proofs.YthbbpfgjbidbhaaGreatDoor.val.st_six hs
  obtain ⟨w1, w2, w3⟩ := Go.Proofs.YthbbpfgjbidbhaaGreatDoor.cq.wr_all (i := i) (z := z) (h := h) (C1 := rdK z C R R.length) (by rw [h1]; exact h6) hS k (by omega)
  obtain ⟨m0, m5, _⟩ := Go.Proofs.YthbbpfgjbidbhaaGreatDoor.cq.wr_key hS hm
  obtain ⟨kk, e1, e2, e3⟩ := get_key (C := wrK i z h (rdK z C R R.length) S k) w1 m0 m5
  have e4 := w3 m.a m0 fun j m' hj hm' e => by
    have := Go.Proofs.YthbbpfgjbidbhaaGreatDoor.cq.wr_ne hS hm' hm hj
    omega
  have hL := h2 m.a m0 m5
  obtain ⟨l0, hl0, hch0, e0⟩ := Go.Proofs.YthbbpfgjbidbhaaGreatDoor.em.chain_key hs m0 m5
  have hlen : l0.length ≤ 50 := Go.Proofs.YthbbpfgjbidbhaaGreatDoor.val.okL_len (Go.Proofs.YthbbpfgjbidbhaaGreatDoor.val.st_ok hs hl0)
  have hpos := Go.Proofs.YthbbpfgjbidbhaaGreatDoor.val.ch_len hch0
  have hl1 := hL.1
  rw [← e4] at hl1
  rw [e0] at hl1
  exact ⟨kk, _, e1, e2, e3, by omega, by omega, by rw [e0]; exact hl1⟩
theorem fit_yes (hf : ∀ (j : Nat) (m : E2), j < S.length → S[j]? = some m → (chOf C m.a).length < 50) : fitB C S = true := by
  simp only [fitB, List.all_eq_true, decide_eq_true_eq]
  intro m hm
  obtain ⟨j, hj, rfl⟩ := List.getElem_of_mem hm
  exact hf j _ hj (List.getElem?_eq_getElem hj)
theorem fit_no {j : Nat} {m : E2} (hm : S[j]? = some m) (hf : 50 ≤ (chOf C m.a).length) : fitB C S = false := by
  rw [Bool.eq_false_iff]
  intro h
  simp only [fitB, List.all_eq_true, decide_eq_true_eq] at h
  have := h m (List.mem_of_getElem? hm)
  omega
theorem st_len50 (hs : stB C = true) : ∀ l ∈ C, l.length ≤ 50 := by
  intro l hl
  obtain ⟨j, hj, rfl⟩ := List.getElem_of_mem hl
  exact Go.Proofs.YthbbpfgjbidbhaaGreatDoor.val.okL_len (Go.Proofs.YthbbpfgjbidbhaaGreatDoor.val.st_ok hs (List.getElem?_eq_getElem hj))
end
set_option maxRecDepth 100000 in
theorem undo {w : World} (ok : Bool) (ob bb pb sb : Nat) {A A2 : Option Addr} {n c n2 c2 : Nat} (h0 : w.cell? ⟨ob, 0, none⟩ = some (.bool ok)) (h1 : w.cell? ⟨bb, 0, none⟩ = some (.slice A n c)) (h2 : w.cell? ⟨pb, 0, none⟩ = some (.pointer (some ⟨sb, 0, none⟩))) (h3 : w.cell? ⟨sb, 0, none⟩ = some (.slice A2 n2 c2)) (h4 : w.frozen? ⟨sb, 0, none⟩ = false) :
    CallsD Tryz.prog 61 #[.pointer (some ⟨ob, 0, none⟩), .pointer (some ⟨bb, 0, none⟩), .pointer (some ⟨pb, 0, none⟩)] .returning w fun e u' w' => u' = .returning ∧ (e = .returned (.tuple #[]) ∧ w' = if ok = true then w else w.setCell ⟨sb, 0, none⟩ (.slice A n c)) := by
  cases ok
  · go_enter_d Tryz.func61, Tryz.ntmps61
    go_wp2
    first | go_end0 | refine bodyPost_ret (results_none rfl _ _ _) rfl ?_
    exact ⟨rfl, by simp⟩
  · go_enter_d Tryz.func61, Tryz.ntmps61
    go_wp2
    first | go_end0 | refine bodyPost_ret (results_none rfl _ _ _) rfl ?_
    exact ⟨rfl, by simp⟩
/-- versionOf in a store of one's own: the place of a version that is there -/
theorem impl_vofq {w : World} {Q : Nat → Prop} {N k : Nat} {v : Value} {l : List Ver} {g cap b c j : Nat} (m : E2) (sb : Nat) (hsb : sb < w.heap.size) (hs : w.cell? ⟨sb, 0, none⟩ = some v) (hk : m.a = (k : Int)) (hkn : k < N) (hl : l.length ≤ 2000000) (hL : Lies w Q v N k l g cap b c) (hj : fndI m.b l 0 = (j : Int)) (hjl : j < l.length) :
    Calls Tryz.prog 62 #[.pointer (some ⟨sb, 0, none⟩), .agg #[.int .i64 m.a, .int .i64 m.b]] w fun e w' => e = .returned (.pointer (some ⟨b, j * 5, none⟩)) ∧ Below w.heap.size w w' := by
  obtain rfl := hL.out
  have gl := hL.gl
  have d0 := hL.cell
  have HV0 := Lib.hid hL.vs
  have HZ := Lib.hid hj
  have k1 : (k : Int) < (N : Int) := by omega
  rw [hk]
  clear hL hj
  go_enter Tryz.func62, Tryz.ntmps62
  go_wp2_with fail
  have hb := new1 w (.cells #[.int .i64 (k : Int), .int .i64 m.b] 78)
  have mb := el2.boxed w ⟨(k : Int), m.b⟩ 78
  have hs' := st.up (.cells #[.int .i64 (k : Int), .int .i64 m.b] 78) hs hsb
  have d0' := st.up (.cells #[.int .i64 (k : Int), .int .i64 m.b] 78) d0 gl
  have hv' := HV0.out.below hb
  clear hs d0
  generalize w.alloc _ = W0 at hb mb hs' d0' hv' ⊢
  have HV := Lib.hid hv'
  have HB := Lib.hid hb
  obtain ⟨m0, m1⟩ := el2.atFlat mb
  clear hv' hb mb
  go_quiet (fail)
  go_wp2_with fail
  refine (find.impl_find m.b (by omega) (vsd HV.out _) HB.out.size).mono ?_
  rintro e W1 ⟨rfl, hb1⟩
  rw [HZ.out]
  have HB1 : Hid (Below w.heap.size w W1) := Lib.hid ((Go.Proofs.YthbbpfgjbidbhaaGreatDoor.tf.Off1 HB.out _).trans (hb1.mono HB.out.size))
  clear hb1 m0 m1 hs' d0'
  have t : decide ((j : Int) < 0) = false := decide_eq_false (by omega)
  have hjn : (j : Int) < (l.length : Int) := by omega
  go_wp2_with fail
  go_ret
  refine ⟨?_, HB1.out⟩
  first | rfl | simp
/-! the walk -/
/-- what apply leaves: whether every chain had room, and the store in the box -/
def ApO (w : World) (lo hi sb : Nat) (ok : Bool) (CF : List (List Ver)) (e : Ending) (w' : World) : Prop :=
  e = .returned (.bool ok) ∧ (∃ A' c', w'.cell? ⟨sb, 0, none⟩ = some (.slice A' 6 c') ∧ OQ w' (fun q => (lo ≤ q ∧ q < hi) ∨ w.heap.size ≤ q) (.slice A' 6 c') 6 CF) ∧ Agr (fun q => ¬ (lo ≤ q ∧ q < hi) ∧ q ≠ sb) w w'
noncomputable def apF (C : List (List Ver)) (x : Hd) (R S : List E2) : List (List Ver) := if fitB C S = true then insC C x.i x.c x.h R S else C
set_option maxRecDepth 100000 in
set_option maxHeartbeats 6400000 in
theorem impl_apply {w : World} {lo hi n c n2 c2 : Nat} {A A2 : Option Addr} {R S : List E2} {C : List (List Ver)} (x : Hd) (sb : Nat) {v : Value} (hs : w.cell? ⟨sb, 0, none⟩ = some v) (hsf : w.frozen? ⟨sb, 0, none⟩ = false) (hsb : sb < w.heap.size) (hsl : ¬ (lo ≤ sb ∧ sb < hi)) (hhi : hi ≤ w.heap.size)
    (h : OQ w (fun q => lo ≤ q ∧ q < hi) v 6 C) (hn : n ≤ 2097152) (hn2 : n2 ≤ 2097152) (hR : ∀ W, Agr (fun q => ¬ (lo ≤ q ∧ q < hi)) w W → el2.Vs W w.heap.size A n R) (hS : ∀ W, Agr (fun q => ¬ (lo ≤ q ∧ q < hi)) w W → el2.Vs W w.heap.size A2 n2 S)
    (hst : stB C = true) (hz : lstS C < x.c) (hrk : ∀ m ∈ R, 0 ≤ m.a ∧ m.a ≤ 5) (hall : R.all (hasV C) = true) (hw : wrB S = true) :
    Calls Tryz.prog 31 #[.pointer (some ⟨sb, 0, none⟩), .agg #[.int .i64 x.i, .int .i64 x.s, .int .i64 x.t, .int .i64 x.b, .int .i64 x.l, .int .i64 x.h, .int .i64 x.c, .slice A n c, .slice A2 n2 c2]] w (ApO w lo hi sb (fitB C S) (apF C x R S)) := by
  have hmf : ∀ (fn : Fn) (first cap : Array Value) (w : World), (Instr.makeFunc fn first cap).run Tryz.prog w = .ok (.func fn first cap) w := fun _ _ _ _ => rfl
  obtain ⟨D, cD, rfl⟩ := h.form
  have hlR := (hR w (Agr.refl _ _)).1
  have hlS := (hS w (Agr.refl _ _)).1
  have O := Lib.hid h
  have HR := Lib.hid hR
  have HS := Lib.hid hS
  have HST := Lib.hid hst
  have HZ := Lib.hid hz
  have HK := Lib.hid hrk
  have HA := Lib.hid hall
  have HW := Lib.hid hw
  clear h hR hS hst hz hrk hall hw
  go_enter_defers Tryz.func31, Tryz.ntmps31
  have hb0 := Go.Proofs.YthbbpfgjbidbhaaGreatDoor.vers.new3 w (.cells #[.pointer (some ⟨sb, 0, none⟩)] 93) (.cells #[.int .i64 x.i, .int .i64 x.s, .int .i64 x.t, .int .i64 x.b, .int .i64 x.l, .int .i64 x.h, .int .i64 x.c, .slice A n c, .slice A2 n2 c2] 37) (.cells #[.bool false] 4)
  have s0 := (hb0.cell (p := ⟨sb, 0, none⟩) hsb).trans hs
  go_wp2_with fail
  have p0 := up (.cells #[.bool false] 4) (up (.cells #[.int .i64 x.i, .int .i64 x.s, .int .i64 x.t, .int .i64 x.b, .int .i64 x.l, .int .i64 x.h, .int .i64 x.c, .slice A n c, .slice A2 n2 c2] 37) (one_cell w (.pointer (some ⟨sb, 0, none⟩)) 93) (by simp)) (by simp; omega)
  have tb := (TB.new (w.alloc (.cells #[.pointer (some ⟨sb, 0, none⟩)] 93)) x A n c A2 n2 c2 37).keep (B := w.heap.size + 1 + 1) (by simp) (Go.Proofs.YthbbpfgjbidbhaaGreatDoor.el2.below_le (new1 ((w.alloc (.cells #[.pointer (some ⟨sb, 0, none⟩)] 93)).alloc (.cells #[.int .i64 x.i, .int .i64 x.s, .int .i64 x.t, .int .i64 x.b, .int .i64 x.l, .int .i64 x.h, .int .i64 x.c, .slice A n c, .slice A2 n2 c2] 37)) (.cells #[.bool false] 4)) (by simp))
  have o0 := one_cell ((w.alloc (.cells #[.pointer (some ⟨sb, 0, none⟩)] 93)).alloc (.cells #[.int .i64 x.i, .int .i64 x.s, .int .i64 x.t, .int .i64 x.b, .int .i64 x.l, .int .i64 x.h, .int .i64 x.c, .slice A n c, .slice A2 n2 c2] 37)) (.bool false) 4
  have g0 := one_free ((w.alloc (.cells #[.pointer (some ⟨sb, 0, none⟩)] 93)).alloc (.cells #[.int .i64 x.i, .int .i64 x.s, .int .i64 x.t, .int .i64 x.b, .int .i64 x.l, .int .i64 x.h, .int .i64 x.c, .slice A n c, .slice A2 n2 c2] 37)) (.bool false) 4
  have hsz : (((w.alloc (.cells #[.pointer (some ⟨sb, 0, none⟩)] 93)).alloc (.cells #[.int .i64 x.i, .int .i64 x.s, .int .i64 x.t, .int .i64 x.b, .int .i64 x.l, .int .i64 x.h, .int .i64 x.c, .slice A n c, .slice A2 n2 c2] 37)).alloc (.cells #[.bool false] 4)).heap.size = w.heap.size + 3 := by simp
  simp only [World.size_alloc] at o0 g0 tb
  generalize ((w.alloc _).alloc _).alloc _ = W0 at hb0 s0 p0 tb o0 g0 hsz ⊢
  have B0 := Lib.hid hb0
  have P0 := Lib.hid p0
  have T0 := Lib.hid tb
  have OB0 := Lib.hid (And.intro o0 g0)
  have O0 := Lib.hid (O.out.below hb0)
  have S0 := Lib.hid (And.intro s0 ((hb0.frozen (p := ⟨sb, 0, none⟩) hsb).trans hsf))
  have hlen := st_len50 HST.out
  clear hs hsf hb0 s0 p0 tb o0 g0 O
  refine (impl_copys (by omega) (fun l hl => Nat.le_trans (hlen l hl) (by omega)) (O0.out.rs (fun l hl => Nat.le_trans (hlen l hl) (by omega)) rfl) (Nat.le_refl _)).mono ?_
  rintro e W1 ⟨A5, c5, rfl, ho5, hb1⟩
  have HO5 := Lib.hid ho5
  have HB1 := Lib.hid hb1
  clear ho5 hb1
  have hb2 : Below W0.heap.size W0 (W1.alloc (.cells #[.slice A5 6 c5] 33)) := HB1.out.trans ((new1 W1 _).mono HB1.out.size)
  have hs12 : (W1.alloc (.cells #[.slice A5 6 c5] 33)).heap.size = W1.heap.size + 1 := by simp
  have hs01 := HB1.out.size
  obtain ⟨t0, t1, t2, t3, t4, t5, t6, t7, t8⟩ := T0.out.keep (B := W0.heap.size) (by omega) hb2
  go_wp2_with fail
  have T2 := Lib.hid (T0.out.keep (B := W0.heap.size) (by omega) hb2)
  have P2 := Lib.hid ((hb2.cell (p := ⟨w.heap.size, 0, none⟩) (by simp; omega)).trans P0.out)
  have OB2 := Lib.hid (And.intro ((hb2.cell (p := ⟨w.heap.size + 1 + 1, 0, none⟩) (by simp; omega)).trans OB0.out.1) ((hb2.frozen (p := ⟨w.heap.size + 1 + 1, 0, none⟩) (by simp; omega)).trans OB0.out.2))
  have S2 := Lib.hid (And.intro ((hb2.cell (p := ⟨sb, 0, none⟩) (by simp; omega)).trans S0.out.1) ((hb2.frozen (p := ⟨sb, 0, none⟩) (by simp; omega)).trans S0.out.2))
  have O2 := Lib.hid (O0.out.below hb2)
  have X2 := Lib.hid ((OQ.of_os HO5.out).below (new1 W1 (.cells #[.slice A5 6 c5] 33)))
  have Y2 := Lib.hid (one_cell W1 (.slice A5 6 c5) 33)
  have B2 := Lib.hid (B0.out.trans (hb2.mono B0.out.size))
  generalize W1.alloc (.cells #[.slice A5 6 c5] 33) = W2 at hb2 hs12 t0 t1 t2 t3 t4 t5 t6 t7 t8 T2 P2 OB2 S2 O2 X2 Y2 B2 ⊢
  clear hb2 P0 T0 OB0 S0 O0 t0 t1 t2 t3 t4 t5 t6 t7 t8 HO5
  obtain ⟨Q, hQ⟩ : ∃ Q : Nat → Prop, Q = fun q => (lo ≤ q ∧ q < hi) ∨ W2.heap.size ≤ q := ⟨_, rfl⟩
  have qNo : ∀ q, q < W2.heap.size → ¬ (lo ≤ q ∧ q < hi) → ¬ Q q := fun q h1 h2 => by rw [hQ]; rintro (h | h); exact h2 h; omega
  have qBig : ∀ q, W2.heap.size ≤ q → Q q := fun q h1 => by rw [hQ]; exact .inr h1
  have O2' : Hid (OQ W2 Q (.slice D 6 cD) 6 C) := Lib.hid (O2.out.mono fun q _ h => by rw [hQ]; exact .inl h)
  have HQ := Lib.hid hQ
  have aW : ∀ {W : World}, Agr (fun q => ¬ Q q) W2 W → Agr (fun q => ¬ (lo ≤ q ∧ q < hi)) w W := fun {W} h => (Agr.of_below B2.out _).trans (h.mono fun q h1 h2 => qNo q h1 h2)
  have cW : ∀ {W : World} {p : Addr} {u : Value}, Agr (fun q => ¬ Q q) W2 W → W2.cell? p = some u → p.block < W2.heap.size → ¬ (lo ≤ p.block ∧ p.block < hi) → W.cell? p = some u := fun {W p u} h hp h1 h2 => (World.cell?_of_block (h.block p.block h1 (qNo _ h1 h2))).trans hp
  have fW : ∀ {W : World} {p : Addr} {u : Bool}, Agr (fun q => ¬ Q q) W2 W → W2.frozen? p = u → p.block < W2.heap.size → ¬ (lo ≤ p.block ∧ p.block < hi) → W.frozen? p = u := fun {W p u} h hp h1 h2 => (World.frozen?_of_block (h.block p.block h1 (qNo _ h1 h2))).trans hp
  have l0 : ¬ (lo ≤ w.heap.size ∧ w.heap.size < hi) := by omega
  have l1 : ¬ (lo ≤ w.heap.size + 1 ∧ w.heap.size + 1 < hi) := by omega
  have l2 : ¬ (lo ≤ w.heap.size + 1 + 1 ∧ w.heap.size + 1 + 1 < hi) := by omega
  have lb : ¬ (lo ≤ W1.heap.size ∧ W1.heap.size < hi) := by omega
  have z2 : w.heap.size + 3 < W2.heap.size := by omega
  have T2' : ∀ {W : World}, Agr (fun q => ¬ Q q) W2 W → TB W (w.heap.size + 1) x (.slice A n c) (.slice A2 n2 c2) := fun {W} h => T2.out.of_block (h.block _ (by omega) (qNo _ (by omega) l1))
  clear O2 hQ
  go_loopw [19] (fun i wr => ∃ k : Nat, k ≤ n ∧ i = .int .i64 k ∧ OQ wr Q (.slice D 6 cD) 6 (rdK x.c C R k) ∧ Agr (fun q => ¬ Q q) W2 wr) (fun i _ => n - (intOf i).toNat)
  case atStart => exact ⟨0, by omega, rfl, O2'.out, Agr.refl _ _⟩
  case round =>
    obtain ⟨k, hk, rfl, hoq, hag⟩ := hrel
    have OK := Lib.hid hoq
    have AK := Lib.hid hag
    clear hoq
    have hsz9 := hag.size
    by_cases hlt : k < n
    · have t : decide ((k : Int) < (n : Int)) = true := decide_eq_true (by omega)
      obtain ⟨b, o, m, rfl, hbB, hx, a0, a1⟩ := (HR.out wr (aW hag)).at_ (k := k) hlt
      obtain ⟨kk, l, j, y, hkk, hk6, hl, hl50, hl0, hj, hy⟩ := rd_at (k := k) HST.out HZ.out HK.out HA.out hx
      have HKK := Lib.hid hkk
      clear hkk
      have HX := Lib.hid hx
      have HY := Lib.hid hy
      have HJ := Lib.hid hj
      have HL := Lib.hid hl
      obtain ⟨g, cap, b', c', hL⟩ := OQ.chain OK.out hk6 hl hl0
      have LI := Lib.hid hL
      have hgl := hL.gl
      have hbl := hL.bl
      have hqb := hL.qb
      have p3 := up (.cells #[.int .i64 m.a, .int .i64 m.b] 78) (cW hag P2.out (show w.heap.size < _ by omega) l0) (show w.heap.size < wr.heap.size by omega)
      have s3 := up (.cells #[.int .i64 m.a, .int .i64 m.b] 78) (cW hag S2.out.1 (show sb < _ by omega) hsl) (show sb < wr.heap.size by omega)
      have mb := el2.boxed wr m 78
      obtain ⟨m0, m1⟩ := el2.atFlat mb
      have hn3 := new1 wr (.cells #[.int .i64 m.a, .int .i64 m.b] 78)
      clear hx hy hj hl hL
      go_wp2_with fail
      refine (impl_vofq (Q := Q) (N := 6) (v := .slice D 6 cD) m sb (by simp; omega) s3 HKK.out hk6 (by omega) (LI.out.keep hn3) HJ.out (Go.Proofs.YthbbpfgjbidbhaaGreatDoor.el2.lt_get HY.out)).mono ?_
      rintro e W4 ⟨rfl, hb4⟩
      have hb34 : Below wr.heap.size wr W4 := hn3.trans (hb4.mono (by simp))
      have L4 := Lib.hid (LI.out.keep hb34)
      have O4 := Lib.hid (OK.out.below hb34)
      have A4 := Lib.hid (AK.out.trans (Agr.of_below hb34 _))
      have f4 := L4.out.free2 (j * 5 + 3)
      obtain ⟨y0, y1, y2, y3, y4⟩ := L4.out.at_ HY.out
      obtain ⟨t0, t1, t2, t3, t4, t5, t6, t7, t8⟩ := T2' A4.out
      have hz4 := hb34.size
      clear p3 s3 mb m0 m1 hn3 hb4 hb34 a0 a1
      go_wp2_with fail
      go_region
      have O5 := Lib.hid (OQ.read O4.out (by have := HKK.out; omega) (by have := HKK.out; omega) hk6 HL.out L4.out HJ.out HY.out x.c)
      have A5' := Lib.hid (A4.out.set (p := ⟨b', j * 5 + 3, none⟩) (.int .i64 (max y.d x.c)) (fun e => e hqb))
      rw [show rdC x.c (rdK x.c C R k) m = rdK x.c C R (k + 1) from (rdK_step HX.out).symm] at O5
      generalize W4.setCell _ _ = W5 at O5 A5' ⊢
      clear t0 t1 t2 t3 t4 t5 t6 t7 t8 y0 y1 y2 y3 y4 f4 L4 O4 A4
      have O6 := Lib.hid (O5.out.below ((Below.refl _ W5).drew))
      have A6 := Lib.hid (A5'.out.trans (Agr.of_below ((Below.refl _ W5).drew) _))
      go_wp2_with fail
      go_roundw
      case rel => exact ⟨k + 1, by omega, by go_num, O6.out, A6.out⟩
      case measure => simp [intOf]; omega
    · have t : decide ((k : Int) < (n : Int)) = false := decide_eq_false (by omega)
      obtain rfl : n = k := by omega
      obtain ⟨t0, t1, t2, t3, t4, t5, t6, t7, t8⟩ := T2' hag
      go_wp2_with fail
      clear t0 t1 t2 t3 t4 t5 t6 t7 t8
      obtain ⟨C1, hC1⟩ : ∃ C1, C1 = rdK x.c C R R.length := ⟨_, rfl⟩
      rw [show rdK x.c C R n = C1 by rw [hC1, hlR]] at OK
      have HC1 := Lib.hid hC1
      clear hC1
      go_loopw [40] (fun i wr => ∃ k : Nat, k ≤ n2 ∧ i = .int .i64 k ∧ OQ wr Q (.slice D 6 cD) 6 (wrK x.i x.c x.h C1 S k) ∧ Agr (fun q => ¬ Q q) W2 wr ∧ ∀ (j : Nat) (m : E2), j < k → S[j]? = some m → (chOf C m.a).length < 50) (fun i _ => n2 - (intOf i).toNat)
      case atStart => exact ⟨0, by omega, rfl, OK.out, AK.out, fun j m hj => absurd hj (by omega)⟩
      case round =>
        obtain ⟨k, hk, rfl, hoq, hag2, hfit⟩ := hrel
        clear hag hsz9 OK AK
        have OK := Lib.hid hoq
        have AK := Lib.hid hag2
        have FK := Lib.hid hfit
        clear hoq hfit
        have hsz9 := hag2.size
        by_cases hlt : k < n2
        · have t : decide ((k : Int) < (n2 : Int)) = true := decide_eq_true (by omega)
          obtain ⟨b, o, m, rfl, hbB, hx, a0, a1⟩ := (HS.out wr (aW hag2)).at_ (k := k) hlt
          obtain ⟨kk, l, hkk, hk6, hl, hl50, hl0, hle⟩ := wr_at (i := x.i) (z := x.c) (h := x.h) (R := R) (k := k) HST.out HZ.out HK.out HW.out hx
          rw [← HC1.out] at hl
          have HKK := Lib.hid hkk
          have hkn : m.a.toNat = kk := by omega
          have hk0 : 0 ≤ m.a := by omega
          clear hkk
          have HX := Lib.hid hx
          have HL := Lib.hid hl
          have p3 := up (.cells #[.int .i64 m.a, .int .i64 m.b] 75) (cW hag2 P2.out (show w.heap.size < _ by omega) l0) (show w.heap.size < wr.heap.size by omega)
          have s3 := up (.cells #[.int .i64 m.a, .int .i64 m.b] 75) (cW hag2 S2.out.1 (show sb < _ by omega) hsl) (show sb < wr.heap.size by omega)
          have hn3 := new1 wr (.cells #[.int .i64 m.a, .int .i64 m.b] 75)
          obtain ⟨t0, t1, t2, t3, t4, t5, t6, t7, t8⟩ := (T2' hag2).keep (B := wr.heap.size) (by omega) hn3
          have mb := el2.boxed wr m 75
          obtain ⟨m0, m1⟩ := el2.atFlat mb
          clear hx hl
          go_wp2_with fail
          refine (impl_inst (Q := Q) (N := 6) (v := .slice D 6 cD) (C := wrK x.i x.c x.h C1 S k) (l := l) x m sb s3 (by simp; omega) (qNo sb (by omega) hsl) (fun q hq => qBig q (by simp at hq; omega)) (OK.out.below hn3) hk0 (by omega) (by rw [hkn]; exact HL.out) hl0 (by omega)).mono ?_
          rintro e W4 hres
          have hne3 : wr.heap.size ≤ (wr.alloc (.cells #[.int .i64 m.a, .int .i64 m.b] 75)).heap.size := by simp
          clear p3 mb m0 m1 t0 t1 t2 t3 t4 t5 t6 t7 t8 a0 a1
          rcases hres with ⟨h50, rfl, hb4⟩ | ⟨h50, rfl, ho4, ha4⟩
          · have hb34 := hn3.trans (hb4.mono hne3)
            have A4 := Lib.hid (AK.out.trans (Agr.of_below hb34 _))
            have HF : Hid (fitB C S = false) := Lib.hid (fit_no HX.out (by omega))
            have o4 := cW A4.out OB2.out.1 (show w.heap.size + 1 + 1 < _ by omega) l2
            have g4 := fW A4.out OB2.out.2 (show w.heap.size + 1 + 1 < _ by omega) l2
            clear hn3 hb4 hb34 s3
            have E0 := Lib.hid (set_same (v := .bool false) o4)
            have E1 := Lib.hid (set_other (a := ⟨w.heap.size + 1 + 1, 0, none⟩) (v := .bool false) (cW A4.out Y2.out (show W1.heap.size < _ by omega) lb) (show w.heap.size + 1 + 1 ≠ W1.heap.size by omega))
            have E2 := Lib.hid (set_other (a := ⟨w.heap.size + 1 + 1, 0, none⟩) (v := .bool false) (cW A4.out P2.out (show w.heap.size < _ by omega) l0) (show w.heap.size + 1 + 1 ≠ w.heap.size by omega))
            have E3 := Lib.hid (set_other (a := ⟨w.heap.size + 1 + 1, 0, none⟩) (v := .bool false) (cW A4.out S2.out.1 (show sb < _ by omega) hsl) (show w.heap.size + 1 + 1 ≠ sb by omega))
            have E4 := Lib.hid (set_free (a := ⟨w.heap.size + 1 + 1, 0, none⟩) (v := .bool false) (fW A4.out S2.out.2 (show sb < _ by omega) hsl))
            have EX := Lib.hid (((X2.out.agr (A4.out.mono fun q h1 h2 => qNo q h1 (by omega))).agr ((OffSet W4 ⟨w.heap.size + 1 + 1, 0, none⟩ (.bool false)).mono fun q _ h => by show q ≠ w.heap.size + 1 + 1; omega)))
            have EA := Lib.hid (((aW A4.out).mono fun q h1 (h2 : ¬ (lo ≤ q ∧ q < hi) ∧ q ≠ sb) => h2.1).setNew (p := ⟨w.heap.size + 1 + 1, 0, none⟩) (.bool false) (show w.heap.size ≤ w.heap.size + 1 + 1 by omega))
            go_wp2_with fail
            all_goals
              generalize W4.setCell _ _ = W5 at E0 E1 E2 E3 E4 EX EA ⊢
              refine leaves_cons (f := 61) (args := #[.pointer (some ⟨w.heap.size + 1 + 1, 0, none⟩), .pointer (some ⟨W1.heap.size, 0, none⟩), .pointer (some ⟨w.heap.size, 0, none⟩)]) (by simp) (by simp [go_sem]) ?_
              refine (undo false _ _ _ _ E0.out E1.out E2.out E3.out E4.out).mono ?_
              rintro e u' w'' ⟨rfl, rfl, hw9⟩
              rw [if_neg Bool.false_ne_true] at hw9
              subst hw9
              have F0 := set_other (a := ⟨sb, 0, none⟩) (v := .slice A5 6 c5) E0.out (show sb ≠ w.heap.size + 1 + 1 by omega)
              have F1 := set_same (v := .slice A5 6 c5) E3.out
              have FX := EX.out.agr ((OffSet W5 ⟨sb, 0, none⟩ (.slice A5 6 c5)).mono fun q _ h => by show q ≠ sb; omega)
              have FA := EA.out.set (p := ⟨sb, 0, none⟩) (.slice A5 6 c5) (fun e => e.2 rfl)
              refine ⟨.bool false, ?_, ?_⟩
              · simp [results, Tryz.results31, go_sem, F0]
              · refine ⟨by rw [HF.out], ⟨A5, c5, F1, ?_⟩, FA⟩
                rw [apF, HF.out, if_neg Bool.false_ne_true]
                exact FX.mono fun q _ h => .inr (by omega)
          · have A4 := Lib.hid ((AK.out.trans (Agr.of_below hn3 _)).trans ha4)
            have O4 := Lib.hid ho4
            rw [show wrC x.i x.c x.h (wrK x.i x.c x.h C1 S k) m = wrK x.i x.c x.h C1 S (k + 1) from (wrK_step HX.out).symm] at O4
            have F4 : Hid (∀ (j : Nat) (m : E2), j < k + 1 → S[j]? = some m → (chOf C m.a).length < 50) := Lib.hid fun j m' hj hm' => by
              by_cases e : j = k
              · subst e
                have e2 := HX.out
                rw [hm'] at e2
                injection e2 with e2
                rw [e2, ← hle]
                exact h50
              · exact FK.out j m' (by omega) hm'
            clear hn3 ho4 ha4 s3
            go_wp2_with fail
            go_roundw
            case rel => exact ⟨k + 1, by omega, by go_num, O4.out, A4.out, F4.out⟩
            case measure => simp [intOf]; omega
        · have t : decide ((k : Int) < (n2 : Int)) = false := decide_eq_false (by omega)
          obtain rfl : n2 = k := by omega
          have HF : Hid (fitB C S = true) := Lib.hid (fit_yes fun j m hj => FK.out j m (by omega))
          have o4 := cW AK.out OB2.out.1 (show w.heap.size + 1 + 1 < _ by omega) l2
          have g4 := fW AK.out OB2.out.2 (show w.heap.size + 1 + 1 < _ by omega) l2
          have E0 := Lib.hid (set_same (v := .bool true) o4)
          have E1 := Lib.hid (set_other (a := ⟨w.heap.size + 1 + 1, 0, none⟩) (v := .bool true) (cW AK.out Y2.out (show W1.heap.size < _ by omega) lb) (show w.heap.size + 1 + 1 ≠ W1.heap.size by omega))
          have E2 := Lib.hid (set_other (a := ⟨w.heap.size + 1 + 1, 0, none⟩) (v := .bool true) (cW AK.out P2.out (show w.heap.size < _ by omega) l0) (show w.heap.size + 1 + 1 ≠ w.heap.size by omega))
          have E3 := Lib.hid (set_other (a := ⟨w.heap.size + 1 + 1, 0, none⟩) (v := .bool true) (cW AK.out S2.out.1 (show sb < _ by omega) hsl) (show w.heap.size + 1 + 1 ≠ sb by omega))
          have E4 := Lib.hid (set_free (a := ⟨w.heap.size + 1 + 1, 0, none⟩) (v := .bool true) (fW AK.out S2.out.2 (show sb < _ by omega) hsl))
          have EX := Lib.hid (OK.out.agr ((OffSet wr ⟨w.heap.size + 1 + 1, 0, none⟩ (.bool true)).mono fun q _ h => fun e => qNo q (by rw [e]; show w.heap.size + 1 + 1 < _; omega) (by rw [e]; exact l2) h))
          have EA := Lib.hid (((aW AK.out).mono fun q h1 (h2 : ¬ (lo ≤ q ∧ q < hi) ∧ q ≠ sb) => h2.1).setNew (p := ⟨w.heap.size + 1 + 1, 0, none⟩) (.bool true) (show w.heap.size ≤ w.heap.size + 1 + 1 by omega))
          go_wp2_with fail
          all_goals
            generalize wr.setCell _ _ = W5 at E0 E1 E2 E3 E4 EX EA ⊢
            refine leaves_cons (f := 61) (args := #[.pointer (some ⟨w.heap.size + 1 + 1, 0, none⟩), .pointer (some ⟨W1.heap.size, 0, none⟩), .pointer (some ⟨w.heap.size, 0, none⟩)]) (by simp) (by simp [go_sem]) ?_
            refine (undo true _ _ _ _ E0.out E1.out E2.out E3.out E4.out).mono ?_
            rintro e u' w'' ⟨rfl, rfl, hw9⟩
            rw [if_pos rfl] at hw9
            subst hw9
            have F0 := E0.out
            refine ⟨.bool true, ?_, ?_⟩
            · simp [results, Tryz.results31, go_sem, F0]
            · refine ⟨by rw [HF.out], ⟨D, cD, E3.out, ?_⟩, EA.out⟩
              rw [apF, HF.out, if_pos rfl]
              have e : insC C x.i x.c x.h R S = wrK x.i x.c x.h C1 S n2 := by unfold insC; rw [HC1.out, hlS]
              rw [e]
              refine EX.out.mono fun q _ h => ?_
              rw [HQ.out] at h
              rcases h with h | h
              · exact .inl h
              · exact .inr (by omega)
end Go.Proofs.YthbbpfgjbidbhaaGreatDoor.apl
