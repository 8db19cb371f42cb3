/- Marks of a list of transactions: what a law writes and what it reads back. -/
import Derived.Test.YtjnlbhmddhpmaaaTl
import Derived.Test.YtjnlbhmddhpmaaaMt
import Derived.WalkKit
import Derived.ProofKit
import Derived.Below
import Derived.Lib.Hide
import Derived.LoopTactic
import Derived.Outline
import Derived.IntWalk
import Derived.Deep.OwnRows
namespace Go.Proofs.Ytjnlbhmddhpmaaa.tlm
open Go.ChangeShapes Go.WideShapes Go.ChangeAt Go.RowKit
open Go.Proofs.Ytjnlbhmddhpmaaa.el2 Go.Proofs.Ytjnlbhmddhpmaaa.fr Go.Proofs.Ytjnlbhmddhpmaaa.ow2 Go.Proofs.Ytjnlbhmddhpmaaa.tx Go.Proofs.Ytjnlbhmddhpmaaa.tm Go.Proofs.Ytjnlbhmddhpmaaa.ts Go.Proofs.Ytjnlbhmddhpmaaa.tl
open Go.Proofs.Ytjnlbhmddhpmaaa.mkr (Tr)
set_option linter.unusedVariables false
set_option linter.unusedSimpArgs false
theorem ival {a b : Int} (h : a = b) : Value.int .i64 a = .int .i64 b := congrArg _ h
/-- outside [lo, hi) all is kept, inside all but blocks of the types S -/
structure KT (S : TypeId → Prop) (lo hi : Nat) (w w' : World) : Prop where
  fr : FR lo hi w w'
  ty : ∀ (k : Nat) (cur : Array Value) (ty : TypeId) (z : Nat × Nat), w.heap[k]? = some (Obj.cells cur ty z) → ¬ S ty → w'.heap[k]? = w.heap[k]?
theorem KT.refl (S : TypeId → Prop) (lo hi : Nat) (w : World) : KT S lo hi w w := ⟨FR.same _, fun _ _ _ _ _ _ => rfl⟩
theorem KT.trans {S : TypeId → Prop} {lo hi : Nat} {w w' w2 : World} (h : KT S lo hi w w') (h2 : KT S lo hi w' w2) : KT S lo hi w w2 :=
  ⟨h.fr.trans h2.fr, fun k cur ty z hc hs => (h2.ty k cur ty z ((h.ty k cur ty z hc hs).trans hc) hs).trans (h.ty k cur ty z hc hs)⟩
theorem KT.mono {S S' : TypeId → Prop} {lo hi : Nat} {w w' : World} (h : KT S lo hi w w') (hs : ∀ t, S t → S' t) : KT S' lo hi w w' := ⟨h.fr, fun k cur ty z hc hn => h.ty k cur ty z hc fun hh => hn (hs _ hh)⟩
theorem KT.row {S : TypeId → Prop} {lo hi g M : Nat} {w w' : World} {t : TypeId} {f : Nat → Value} (h : KT S lo hi w w') (hr : w.rowIs g t M f) (ht : ¬ S t) : w'.heap[g]? = w.heap[g]? := by
  obtain ⟨c, hc, _⟩ := hr
  exact h.ty g c t _ hc ht
theorem KT.off {S : TypeId → Prop} {lo hi g M : Nat} {w w' : World} {t : TypeId} {f : Nat → Value} (h : Off g w w') (hr : w.rowIs g t M f) (ht : S t) (h1 : lo ≤ g) (h2 : g < hi) : KT S lo hi w w' :=
  ⟨(fr_off h).wide h1 (by omega), fun k cur ty z hc hn => h.block k fun e => by
    subst e
    obtain ⟨c, hc', _⟩ := hr
    rw [hc] at hc'
    injection hc' with e
    injection e with _ e2
    exact hn (e2 ▸ ht)⟩
theorem KT.ows {S : TypeId → Prop} {lo hi n : Nat} {w w' : World} {t : TypeId} {A : Option Addr} {l : List E2} (ho : OwS t w lo hi A n l) (ht : S t) (hf : FR lo hi w w') (hk : ∀ k, (∀ g, A = some ⟨g, 0, none⟩ → 0 < n → k ≠ g) → w'.heap[k]? = w.heap[k]?) : KT S lo hi w w' :=
  ⟨hf, fun k cur ty z hc hn => hk k fun g e p => by
    rintro rfl
    obtain ⟨g', M, f, e', hr⟩ := row_any ho p
    rw [e] at e'
    injection e' with e'
    injection e' with e'
    subst e'
    obtain ⟨c, hc', _⟩ := hr
    rw [hc] at hc'
    injection hc' with e
    injection e with _ e2
    exact hn (e2 ▸ ht)⟩
/-- the types that the marks of a list of transactions touch -/
def TT (t : TypeId) : Prop := t = 79 ∨ t = 122 ∨ t = 124
theorem ML.row {w : World} {lo hi n j g : Nat} {L : List Tr} {k0 : Int} (h : ML w lo hi (some ⟨g, 0, none⟩) n L k0 j) (hn : 0 < n) : ∃ M f, w.rowIs g 79 M f := by
  obtain ⟨g', M, f, hd, P, Q, c, d, e, h3, h4, hr, _⟩ := h.2 hn
  injection e with e
  injection e with e
  subst e
  exact ⟨M, f, hr⟩
theorem put7_eq {w : World} {g j : Nat} {z z1 z2 z3 z4 z5 z6 : Int} (e1 : z1 = z + 1) (e2 : z2 = z + 2) (e3 : z3 = z + 3) (e4 : z4 = z + 4) (e5 : z5 = z + 5) (e6 : z6 = z + 6) : (World.setCell (World.setCell (World.setCell (World.setCell (World.setCell (World.setCell (World.setCell w ⟨g, j * 9, none⟩ (.int .i64 (z))) ⟨g, j * 9 + 1, none⟩ (.int .i64 (z1))) ⟨g, j * 9 + 2, none⟩ (.int .i64 (z2))) ⟨g, j * 9 + 3, none⟩ (.int .i64 (z3))) ⟨g, j * 9 + 4, none⟩ (.int .i64 (z4))) ⟨g, j * 9 + 5, none⟩ (.int .i64 (z5))) ⟨g, j * 9 + 6, none⟩ (.int .i64 (z6))) = (World.setCell (World.setCell (World.setCell (World.setCell (World.setCell (World.setCell (World.setCell w ⟨g, j * 9, none⟩ (.int .i64 (z))) ⟨g, j * 9 + 1, none⟩ (.int .i64 (z + 1))) ⟨g, j * 9 + 2, none⟩ (.int .i64 (z + 2))) ⟨g, j * 9 + 3, none⟩ (.int .i64 (z + 3))) ⟨g, j * 9 + 4, none⟩ (.int .i64 (z + 4))) ⟨g, j * 9 + 5, none⟩ (.int .i64 (z + 5))) ⟨g, j * 9 + 6, none⟩ (.int .i64 (z + 6))) := by subst e1 e2 e3 e4 e5 e6; rfl
/-- the world behind the seven stores -/
structure Laid (w V : World) (g j lo hi : Nat) (z : Int) (t : Tr) (P : Option Addr) (pc : Nat) (Q : Option Addr) (qc : Nat) : Prop where
  eq : V = (World.setCell (World.setCell (World.setCell (World.setCell (World.setCell (World.setCell (World.setCell w ⟨g, j * 9, none⟩ (.int .i64 (z))) ⟨g, j * 9 + 1, none⟩ (.int .i64 (z + 1))) ⟨g, j * 9 + 2, none⟩ (.int .i64 (z + 2))) ⟨g, j * 9 + 3, none⟩ (.int .i64 (z + 3))) ⟨g, j * 9 + 4, none⟩ (.int .i64 (z + 4))) ⟨g, j * 9 + 5, none⟩ (.int .i64 (z + 5))) ⟨g, j * 9 + 6, none⟩ (.int .i64 (z + 6)))
  c7 : V.cell? ⟨g, j * 9 + 7, none⟩ = some (.slice P t.R.length pc)
  c8 : V.cell? ⟨g, j * 9 + 8, none⟩ = some (.slice Q t.S.length qc)
  o1 : OwS 122 V lo hi P t.R.length t.R
  o2 : OwS 124 V lo hi Q t.S.length t.S
  kt : KT TT lo hi w V
  row : ∃ M f, V.rowIs g 79 M f
theorem laid {w : World} {g j lo hi pc qc M : Nat} {z : Int} {t : Tr} {P Q : Option Addr} {f : Nat → Value} (hr : w.rowIs g 79 M f) (h7 : w.cell? ⟨g, j * 9 + 7, none⟩ = some (.slice P t.R.length pc)) (h8 : w.cell? ⟨g, j * 9 + 8, none⟩ = some (.slice Q t.S.length qc)) (o1 : OwS 122 w lo hi P t.R.length t.R) (o2 : OwS 124 w lo hi Q t.S.length t.S) (hlo : lo ≤ g) (hhi : g < hi) : Laid w ((World.setCell (World.setCell (World.setCell (World.setCell (World.setCell (World.setCell (World.setCell w ⟨g, j * 9, none⟩ (.int .i64 (z))) ⟨g, j * 9 + 1, none⟩ (.int .i64 (z + 1))) ⟨g, j * 9 + 2, none⟩ (.int .i64 (z + 1 + 1))) ⟨g, j * 9 + 3, none⟩ (.int .i64 (z + 1 + 1 + 1))) ⟨g, j * 9 + 4, none⟩ (.int .i64 (z + 1 + 1 + 1 + 1))) ⟨g, j * 9 + 5, none⟩ (.int .i64 (z + 1 + 1 + 1 + 1 + 1))) ⟨g, j * 9 + 6, none⟩ (.int .i64 (z + 1 + 1 + 1 + 1 + 1 + 1)))) g j lo hi z t P pc Q qc := by
  rw [put7_eq (z1 := z + 1) (z2 := z + 1 + 1) (z3 := z + 1 + 1 + 1) (z4 := z + 1 + 1 + 1 + 1) (z5 := z + 1 + 1 + 1 + 1 + 1) (z6 := z + 1 + 1 + 1 + 1 + 1 + 1) rfl (by omega) (by omega) (by omega) (by omega) (by omega)]
  have ho := put7_off w g j z
  have hp := put7_row (k := j) hr z
  refine ⟨rfl, ?_, ?_, ?_, ?_, ?_, ⟨_, _, hp⟩⟩
  · rw [World.cell?_setCell_other _ _ _ _ (by simp), World.cell?_setCell_other _ _ _ _ (by simp), World.cell?_setCell_other _ _ _ _ (by simp), World.cell?_setCell_other _ _ _ _ (by simp), World.cell?_setCell_other _ _ _ _ (by simp), World.cell?_setCell_other _ _ _ _ (by simp), World.cell?_setCell_other _ _ _ _ (by simp)]
    exact h7
  · rw [World.cell?_setCell_other _ _ _ _ (by simp), World.cell?_setCell_other _ _ _ _ (by simp), World.cell?_setCell_other _ _ _ _ (by simp), World.cell?_setCell_other _ _ _ _ (by simp), World.cell?_setCell_other _ _ _ _ (by simp), World.cell?_setCell_other _ _ _ _ (by simp), World.cell?_setCell_other _ _ _ _ (by simp)]
    exact h8
  · exact ows_of o1 fun gq e p => ho.block gq (ows_ne o1 hr (by decide) e p)
  · exact ows_of o2 fun gq e p => ho.block gq (ows_ne o2 hr (by decide) e p)
  · exact KT.off ho hr (.inl rfl) hlo hhi
theorem laid2 {w V W1 : World} {g j lo hi pc qc : Nat} {z : Int} {t : Tr} {P Q : Option Addr} (h : Laid w V g j lo hi z t P pc Q qc) (hk1 : ∀ k, (∀ g', P = some ⟨g', 0, none⟩ → 0 < t.R.length → k ≠ g') → W1.heap[k]? = V.heap[k]?) : W1.cell? ⟨g, j * 9 + 8, none⟩ = some (.slice Q t.S.length qc) ∧ OwS 124 W1 lo hi Q t.S.length t.S := by
  obtain ⟨M9, f9, r9⟩ := h.row
  refine ⟨(World.cell?_of_block (w := V) (a := ⟨g, j * 9 + 8, none⟩) (hk1 g fun g' e p => (ows_ne h.o1 r9 (by decide) e p).symm)).trans h.c8, ows_of h.o2 fun gq e p => ?_⟩
  obtain ⟨gb, _, _, eb, rb⟩ := row_any h.o2 p
  rw [e] at eb
  injection eb with eb
  injection eb with eb
  subst eb
  exact hk1 gq fun g5 e5 p5 => (ows_ne h.o1 rb (by decide) e5 p5).symm
theorem laid3 {w V W1 W2 : World} {g j n lo hi pc qc : Nat} {z : Int} {t : Tr} {P Q : Option Addr} {L : List Tr} {k0 : Int} (h : Laid w V g j lo hi z t P pc Q qc) (hm : ML w lo hi (some ⟨g, 0, none⟩) n L k0 j) (hj : j < n) (ht : L[j]? = some t) (hz : z = elk k0 L j) (h7 : w.cell? ⟨g, j * 9 + 7, none⟩ = some (.slice P t.R.length pc)) (h8 : w.cell? ⟨g, j * 9 + 8, none⟩ = some (.slice Q t.S.length qc))
    (hm1 : MkS 122 W1 lo hi P t.R.length (z + 7)) (hk1 : ∀ k, (∀ g', P = some ⟨g', 0, none⟩ → 0 < t.R.length → k ≠ g') → W1.heap[k]? = V.heap[k]?)
    (hm2 : MkS 124 W2 lo hi Q t.S.length (z + 7 + ((t.R.length * 2 : Nat) : Int))) (hk2 : ∀ k, (∀ g', Q = some ⟨g', 0, none⟩ → 0 < t.S.length → k ≠ g') → W2.heap[k]? = W1.heap[k]?) : ML W2 lo hi (some ⟨g, 0, none⟩) n L k0 (j + 1) :=
  ML.step hm hj ht hz h7 h8 hm1 (by rw [h.eq] at hk1; exact hk1) hm2 hk2
set_option maxRecDepth 100000 in
set_option maxHeartbeats 3200000 in
theorem mark_txs {w : World} {lo hi n c : Nat} {A : Option Addr} {L : List Tr} {k0 : Int} (h0 : 0 ≤ k0) (h1 : k0 ≤ 1125899906842624) (hn : n ≤ 1048576) (hc : cntT L ≤ 1048576) (h : OwL w lo hi A n L) :
    Calls Try.prog 40 #[.slice A n c, .int .i64 k0] w fun e w' => e = .returned (.int .i64 (elk k0 L n)) ∧ ML w' lo hi A n L k0 n ∧ KT TT lo hi w w' := by
  have H := Lib.hid (ML.of_own h k0)
  clear h
  go_enter Try.func40, Try.ntmps40
  go_wp2
  go_loopw [1, 5] (fun k i wr => ∃ j : Nat, j ≤ n ∧ i = .int .i64 j ∧ k = .int .i64 (elk k0 L j) ∧ ML wr lo hi A n L k0 j ∧ KT TT lo hi w wr) (fun _ i _ => n - (intOf i).toNat)
  case atStart => exact ⟨0, by omega, rfl, ival (elk_0 k0 L).symm, H.out, KT.refl _ _ _ _⟩
  case round =>
    obtain ⟨j, hj, rfl, rfl, hm, hf⟩ := hrel
    have HM := Lib.hid hm
    have HF := Lib.hid hf
    by_cases hlt : j < n
    · obtain ⟨g, t, x, P, Q, pc, qc, rfl, hlo, hhi, hgs, ht, ⟨a0, a1, a2, a3, a4, a5, a6, a7, a8⟩, fz, o1, o2⟩ := hm.at_ hlt
      have HT := Lib.hid ht
      have hlen := len_le ht
      have hct := cnt_take ht
      have hcl := cnt_le L j
      have hel : elk k0 L j = k0 + ((j * 7 + cntT (L.take j) * 2 : Nat) : Int) := rfl
      have HST := Lib.hid (elk_step (k0 := k0) ht)
      obtain ⟨z, hz⟩ : ∃ z : Int, z = elk k0 L j := ⟨_, rfl⟩
      have z0 : 0 ≤ z := by omega
      have z1 : z ≤ 1152921504606846900 := by omega
      rw [← hz]
      have HZ := Lib.hid hz
      obtain ⟨MM, ff, hrow⟩ := ML.row hm (by omega)
      have hq7 : 0 ≤ z + 1 + 1 + 1 + 1 + 1 + 1 + 1 := by omega
      have HQ7 : Hid (z + 1 + 1 + 1 + 1 + 1 + 1 + 1 ≤ 1152921504606846976) := Lib.hid (by omega)
      have hn1 : t.R.length ≤ 1048576 := by omega
      have hn2 : t.S.length ≤ 1048576 := by omega
      have HLD := Lib.hid (laid (z := z) (j := j) hrow a7 a8 o1 o2 hlo hhi)
      obtain ⟨y, hy⟩ : ∃ y : Int, y = z + 1 + 1 + 1 + 1 + 1 + 1 + 1 + ((t.R.length * 2 : Nat) : Int) := ⟨_, rfl⟩
      have y0 : 0 ≤ y := by omega
      have y1 : y ≤ 1152921504606846976 := by omega
      have HY := Lib.hid hy
      have HA7 := Lib.hid a7
      have HA8 := Lib.hid a8
      have f0 := fz (j * 9)
      have f1 := fz (j * 9 + 1)
      have f2 := fz (j * 9 + 2)
      have f3 := fz (j * 9 + 3)
      have f4 := fz (j * 9 + 4)
      have f5 := fz (j * 9 + 5)
      have f6 := fz (j * 9 + 6)
      have c7 := HLD.out.c7
      clear hm hf ht hz hel fz o1 o2 a7 a8 hrow hlen hct hcl hgs hlo hhi hy
      go_wp2_with fail
      generalize World.setCell _ _ _ = V at HLD c7 ⊢
      clear c7 a0 a1 a2 a3 a4 a5 a6 f0 f1 f2 f3 f4 f5 f6
      refine (mark_r hq7 HQ7.out hn1 HLD.out.o1).mono ?_
      rintro e W1 ⟨rfl, hm1, hf1, hz1, hk1⟩
      rw [← HY.out]
      have HT1 := Lib.hid (KT.ows (S := TT) HLD.out.o1 (.inr (.inl rfl)) hf1 hk1)
      have h2 := laid2 HLD.out hk1
      have c8 := h2.1
      have HO2 := Lib.hid h2.2
      have HM1 := Lib.hid hm1
      have HK1 := Lib.hid hk1
      clear hm1 hk1 hf1 hz1 h2
      go_wp2_with fail
      refine (mark_w y0 y1 hn2 HO2.out).mono ?_
      rintro e W2 ⟨rfl, hm2, hf2, hz2, hk2⟩
      have HT2 := Lib.hid (KT.ows (S := TT) HO2.out (.inr (.inr rfl)) hf2 hk2)
      have HM2 := Lib.hid hm2
      have HK2 := Lib.hid hk2
      clear hm2 hf2 hz2 hk2
      go_wp2_with fail
      go_roundw
      case rel =>
        have e7 : z + 1 + 1 + 1 + 1 + 1 + 1 + 1 = z + 7 := by omega
        have m1 := HM1.out
        have m2 := HM2.out
        rw [e7] at m1
        rw [HY.out, e7] at m2
        exact ⟨j + 1, by omega, by go_num, ival (by have := HST.out; have := HZ.out; have := HY.out; omega), laid3 HLD.out HM.out hlt HT.out HZ.out HA7.out HA8.out m1 HK1.out m2 HK2.out, ((HF.out.trans HLD.out.kt).trans HT1.out).trans HT2.out⟩
      case measure => simp [intOf]; omega
    · obtain rfl : j = n := by omega
      clear hm hf
      go_wp2_with fail
      go_ret
      exact ⟨rfl, HM.out, HF.out⟩
set_option maxRecDepth 100000 in
set_option maxHeartbeats 3200000 in
theorem held_txs {w : World} {lo hi n c : Nat} {A : Option Addr} {L : List Tr} {k0 : Int} (h0 : 0 ≤ k0) (h1 : k0 ≤ 1125899906842624) (hn : n ≤ 1048576) (hc : cntT L ≤ 1048576) (h : ML w lo hi A n L k0 n) :
    Calls Try.prog 44 #[.slice A n c, .int .i64 k0] w fun e w' => e = .returned (.int .i64 (elk k0 L n)) ∧ w = w' := by
  have H := Lib.hid h
  clear h
  go_enter Try.func44, Try.ntmps44
  go_wp2
  go_loop [1, 5] (fun k i => ∃ j : Nat, j ≤ n ∧ i = .int .i64 j ∧ k = .int .i64 (elk k0 L j)) (fun _ i => n - (intOf i).toNat)
  case atStart => exact ⟨0, by omega, rfl, ival (elk_0 k0 L).symm⟩
  case round =>
    obtain ⟨j, hj, rfl, rfl⟩ := hrel
    by_cases hlt : j < n
    · obtain ⟨g, t, P, Q, pc, qc, rfl, ht, ⟨a0, a1, a2, a3, a4, a5, a6, a7, a8⟩, m1, m2⟩ := H.out.at_m hlt hlt
      have hlen := len_le ht
      have hct := cnt_take ht
      have hcl := cnt_le L j
      have hel : elk k0 L j = k0 + ((j * 7 + cntT (L.take j) * 2 : Nat) : Int) := rfl
      have HST := Lib.hid (elk_step (k0 := k0) ht)
      obtain ⟨z, hz⟩ : ∃ z : Int, z = elk k0 L j := ⟨_, rfl⟩
      have z0 : 0 ≤ z := by omega
      have z1 : z ≤ 1152921504606846900 := by omega
      have hle : elk k0 L j + 7 + ((t.R.length * 2 : Nat) : Int) ≤ 1152921504606846900 := by omega
      have hle2 : elk k0 L j + 7 + ((t.R.length * 2 : Nat) : Int) + ((t.S.length * 2 : Nat) : Int) ≤ 1152921504606846900 := by omega
      rw [← hz] at hle hle2 m1 m2 a0 a1 a2 a3 a4 a5 a6 HST ⊢
      simp only [mh] at a0 a1 a2 a3 a4 a5 a6
      rw [show z + 2 = z + 1 + 1 by omega] at a2
      rw [show z + 3 = z + 1 + 1 + 1 by omega] at a3
      rw [show z + 4 = z + 1 + 1 + 1 + 1 by omega] at a4
      rw [show z + 5 = z + 1 + 1 + 1 + 1 + 1 by omega] at a5
      rw [show z + 6 = z + 1 + 1 + 1 + 1 + 1 + 1 by omega] at a6
      obtain ⟨y, hy⟩ : ∃ y : Int, y = z + 7 + ((t.R.length * 2 : Nat) : Int) := ⟨_, rfl⟩
      have y0 : 0 ≤ y := by omega
      have y1 : y ≤ 1152921504606846900 := by omega
      have ty : decide (y < 0) = false := decide_eq_false (by omega)
      have tz : decide (y + ((t.S.length * 2 : Nat) : Int) < 0) = false := decide_eq_false (by omega)
      rw [← hy] at m2
      have HM1 := Lib.hid m1
      have HM2 := Lib.hid m2
      have HY := Lib.hid hy
      have HZ := Lib.hid hz
      clear hz hy hel ht m1 m2
      go_wp2_with fail
      refine (held_r (k0 := z + 1 + 1 + 1 + 1 + 1 + 1 + 1) (by omega) (by omega) (by omega) (by rw [show z + 1 + 1 + 1 + 1 + 1 + 1 + 1 = z + 7 by omega]; exact HM1.out)).mono ?_
      rintro e W1 ⟨rfl, rfl⟩
      rw [show z + 1 + 1 + 1 + 1 + 1 + 1 + 1 + ((t.R.length * 2 : Nat) : Int) = y by have := HY.out; omega]
      go_wp2_with fail
      refine (held_w y0 (by omega) (by omega) HM2.out).mono ?_
      rintro e W1 ⟨rfl, rfl⟩
      go_wp2_with fail
      go_round
      case rel => exact ⟨j + 1, by omega, by go_num, ival (by have := HST.out; have := HY.out; omega)⟩
      case measure => simp [intOf]; omega
    · obtain rfl : j = n := by omega
      go_wp2_with fail
      go_ret
      exact ⟨rfl, rfl⟩
end Go.Proofs.Ytjnlbhmddhpmaaa.tlm
