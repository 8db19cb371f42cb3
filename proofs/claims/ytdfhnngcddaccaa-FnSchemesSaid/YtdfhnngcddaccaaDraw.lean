/- The lists of versions and the numbers that the model draws: each drawing ends with some list, some number; nothing that was there is written. -/
import Derived.Test.YtdfhnngcddaccaaCur
import Derived.Test.YtdfhnngcddaccaaFlat
import Derived.Test.YtdfhnngcddaccaaFind
import Derived.WalkKit
import Derived.ProofKit
import Derived.Below
import Derived.Lib.Hide
import Derived.LoopTactic
import Derived.Outline
import Derived.IntWalk
import Derived.WalkLawsBesides
import Derived.Lib.MinMax
import Derived.Deep.RegionHeld3
namespace Go.Proofs.Ytdfhnngcddaccaa.draw
open Go.ChangeShapes Go.WideShapes Go.ChangeAt Go.RowKit
open Go.Proofs.Ytdfhnngcddaccaa.vers Go.Proofs.Ytdfhnngcddaccaa.sl Go.Proofs.Ytdfhnngcddaccaa.ch Go.Proofs.Ytdfhnngcddaccaa.flat Go.Proofs.Ytdfhnngcddaccaa.cur
set_option linter.unusedVariables false
set_option linter.unusedSimpArgs false
theorem flat_set : ∀ (l : List Ver) (i : Nat) (y : Int), i < l.length * 5 → ∃ l' : List Ver, l'.length = l.length ∧ (flat l).set i (.int .i64 y) = flat l'
  | [], i, y, h => by simp at h
  | x :: r, i, y, h => by
    by_cases hi : i < 5
    · have hc : i = 0 ∨ i = 1 ∨ i = 2 ∨ i = 3 ∨ i = 4 := by omega
      rcases hc with rfl | rfl | rfl | rfl | rfl
      · exact ⟨⟨y, x.b, x.c, x.d, x.e⟩ :: r, rfl, rfl⟩
      · exact ⟨⟨x.a, y, x.c, x.d, x.e⟩ :: r, rfl, rfl⟩
      · exact ⟨⟨x.a, x.b, y, x.d, x.e⟩ :: r, rfl, rfl⟩
      · exact ⟨⟨x.a, x.b, x.c, y, x.e⟩ :: r, rfl, rfl⟩
      · exact ⟨⟨x.a, x.b, x.c, x.d, y⟩ :: r, rfl, rfl⟩
    · obtain ⟨l', hl, hf⟩ := flat_set r (i - 5) y (by simp at h; omega)
      refine ⟨x :: l', by simp [hl], ?_⟩
      have e : flat (x :: r) = [.int .i64 x.a, .int .i64 x.b, .int .i64 x.c, .int .i64 x.d, .int .i64 x.e] ++ flat r := rfl
      have e2 : flat (x :: l') = [.int .i64 x.a, .int .i64 x.b, .int .i64 x.c, .int .i64 x.d, .int .i64 x.e] ++ flat l' := rfl
      rw [e, e2, ← hf, List.set_append_right _ _ (by simp; omega)]
      rfl
theorem flat_int : ∀ (l : List Ver) (i : Nat), i < l.length * 5 → ∃ y : Int, (flat l)[i]? = some (.int .i64 y)
  | [], i, h => by simp at h
  | x :: r, i, h => by
    have e : flat (x :: r) = [.int .i64 x.a, .int .i64 x.b, .int .i64 x.c, .int .i64 x.d, .int .i64 x.e] ++ flat r := rfl
    by_cases hi : i < 5
    · have hc : i = 0 ∨ i = 1 ∨ i = 2 ∨ i = 3 ∨ i = 4 := by omega
      rcases hc with rfl | rfl | rfl | rfl | rfl
      · exact ⟨x.a, rfl⟩
      · exact ⟨x.b, rfl⟩
      · exact ⟨x.c, rfl⟩
      · exact ⟨x.d, rfl⟩
      · exact ⟨x.e, rfl⟩
    · obtain ⟨y, hy⟩ := flat_int r (i - 5) (by simp at h; omega)
      refine ⟨y, ?_⟩
      rw [e, List.getElem?_append_right (by simp; omega)]
      simpa using hy
/-- the call's own row of m versions -/
def R5 (w : World) (B : Nat) (v : Value) (m : Nat) : Prop := ∃ l : List Ver, l.length = m ∧ w.ownsRow B 34 5 v m (flat l)
section
variable {w w' : World} {B m : Nat} {v : Value}
theorem R5.form (h : R5 w B v m) (hm : 0 < m) : ∃ g cap, v = .slice (some ⟨g, 0, none⟩) m cap ∧ B ≤ g ∧ g < w.heap.size ∧ m ≤ cap ∧ ∀ i, i < m * 5 → ∃ y : Int, w.cell? ⟨g, i, none⟩ = some (.int .i64 y) ∧ w.frozen? ⟨g, i, none⟩ = false := by
  obtain ⟨l, hl, ho⟩ := h
  rcases ho.2 with ⟨_, h0⟩ | ⟨g, cap, cur, hv, hbg, hgg, hnc, _⟩
  · omega
  · subst hv
    have hlt : g < w.heap.size := by
      rcases Nat.lt_or_ge g w.heap.size with h' | h'
      · exact h'
      · rw [Array.getElem?_eq_none h'] at hgg; cases hgg
    refine ⟨g, cap, rfl, hbg, hlt, hnc, fun i hi => ?_⟩
    obtain ⟨y, hy⟩ := flat_int l i (by omega)
    refine ⟨y, ?_, by simp [World.frozen?, hgg]⟩
    have := ho.cells (g := g) rfl i _ hy
    rw [← this]
    congr 1
    unfold Addr.add
    split <;> simp_all
theorem R5.set {g i cap : Nat} (h : R5 w B (.slice (some ⟨g, 0, none⟩) m cap) m) (hi : i < m * 5) (y : Int) : R5 (w.setCell ⟨g, i, none⟩ (.int .i64 y)) B (.slice (some ⟨g, 0, none⟩) m cap) m := by
  obtain ⟨l, hl, ho⟩ := h
  obtain ⟨l', hl', hf⟩ := flat_set l i y (by omega)
  refine ⟨l', by omega, ?_⟩
  rcases ho.2 with ⟨h0, _⟩ | ⟨g', cap', cur, hv, hbg, hgg, hnc, hcm, hsz, htk⟩
  · cases h0
  · injection hv with e1 e2 e3
    injection e1 with e1
    injection e1 with e1 _ _
    subst e1
    subst e3
    refine ⟨by rw [flat_len]; omega, .inr ⟨g, cap, cur.setIfInBounds i (.int .i64 y), rfl, hbg, ?_, hnc, hcm, by simpa using hsz, ?_⟩⟩
    · simp [World.setCell, Array.getElem?_modify, hgg]
    · rw [← hf, ← htk]
      rw [Array.toList_setIfInBounds, List.take_set]
theorem R5.grown {row : Option Nat} (h : R5 w B v m) (hg : w.grownBy w' row) (hne : v.ownBlock = none ∨ v.ownBlock ≠ row) : R5 w' B v m := by
  obtain ⟨l, hl, ho⟩ := h
  exact ⟨l, hl, ho.kept hg hne⟩
theorem R5.alloc (h : R5 w B v m) (o : Obj) : R5 (w.alloc o) B v m := by
  obtain ⟨l, hl, ho⟩ := h
  exact ⟨l, hl, ho.alloc o⟩
theorem R5.only {b g cap : Nat} (h : R5 w B (.slice (some ⟨g, 0, none⟩) m cap) m) (ho : Only b w w') (hg : g ≠ b) : R5 w' B (.slice (some ⟨g, 0, none⟩) m cap) m :=
  h.grown ho.grownBy (.inr (by simpa [Value.ownBlock] using hg))
theorem R5.cells {g cap : Nat} (h : R5 w B (.slice (some ⟨g, 0, none⟩) m cap) m) (hm : 0 < m) : B ≤ g ∧ g < w.heap.size ∧ m ≤ cap ∧ ∀ i, i < m * 5 → ∃ y : Int, w.cell? ⟨g, i, none⟩ = some (.int .i64 y) ∧ w.frozen? ⟨g, i, none⟩ = false := by
  obtain ⟨g', cap', hv, h1, h2, h3, h4⟩ := h.form hm
  injection hv with e1 e2 e3
  injection e1 with e1
  injection e1 with e1 _ _
  subst e1
  subst e3
  exact ⟨h1, h2, h3, h4⟩
theorem R5.vs (h : R5 w B v m) : ∃ A c l, v = .slice A m c ∧ Vs w w.heap.size A m l := by
  obtain ⟨l, hl, ho⟩ := h
  obtain ⟨A, c, hv, hs⟩ := own_vs ho hl
  exact ⟨A, c, l, hv, hs⟩
end
theorem r5_one (w : World) (x : Ver) : R5 (w.alloc (.cells #[.int .i64 x.a, .int .i64 x.b, .int .i64 x.c, .int .i64 x.d, .int .i64 x.e] 34)) w.heap.size (.slice (some ⟨w.heap.size, 0, none⟩) 1 1) 1 :=
  ⟨[x], rfl, rfl, .inr ⟨w.heap.size, 1, _, rfl, Nat.le_refl _, heap_alloc_new w _, Nat.le_refl _, by unfold maxLen; omega, rfl, rfl⟩⟩
theorem cur_set {w : World} {b g i : Nat} {a : Option Addr} {len cap : Nat} (h : CurAt w b a len cap) (hg : g ≠ b) (u : Value) : CurAt (w.setCell ⟨g, i, none⟩ u) b a len cap := by
  obtain ⟨k, x, h0, h1, h2⟩ := h
  exact ⟨k, x, h0, h1, (Below.heap_setCell w ⟨g, i, none⟩ u b (fun e => hg e.symm)).trans h2⟩
/-- a drawn list, as its maker hands it over -/
def DL (B b : Nat) (a : Option Addr) (len cap : Nat) (w : World) (e : Ending) (w' : World) : Prop :=
  ∃ v m, e = .returned v ∧ 0 < m ∧ m ≤ 5 ∧ R5 w' w.heap.size v m ∧ CurAt w' b a len cap ∧ Kp B b w w'
set_option maxRecDepth 100000 in
set_option maxHeartbeats 3200000 in
theorem draw_chain (b B : Nat) (a : Option Addr) (len cap : Nat) (w : World) (hl : len ≤ 1048576) (hc : CurAt w b a len cap) (hcode : CodeAt w B a len) (hB : B ≤ b) :
    Calls Try.prog 94 #[.pointer (some ⟨b, 0, none⟩)] w (DL B b a len cap w) := by
  have hbw := hc.lt
  have HK := Lib.hid (fun (n : Int) (hn : 0 < n) W (hW : CurAt W b a len cap) (hO : Kp B b w W) => below_calls b B a len cap n W hl hW (hcode.below (Nat.le_refl _) hO.bel) hB hn)
  have HP := Lib.hid (fun W (hW : CurAt W b a len cap) (hO : Kp B b w W) (l : List Int) (n : Nat) (h0 : 0 < n) (hn : n ≤ 100) (hln : l.length = n) (hbd : ∀ v ∈ l, -9223372036854775808 ≤ v ∧ v ≤ 9223372036854775807) =>
    pick_calls b B W.heap.size a len cap n (-9223372036854775808) 9223372036854775807 (W.alloc (.cells (l.map (Value.int .i64)).toArray 3)) hl (hW.alloc _) ((hcode.below (Nat.le_refl _) hO.bel).below (Nat.le_refl _) ((Below.refl _ _).alloc (by have := hO.size; omega) _)) hB h0 (by omega) (by have := hW.lt; omega) (fun j hj => ⟨l[j]'(by omega), by rw [World.cell?_alloc_at _ _ _ _ rfl]; simp [List.getElem?_eq_getElem (show j < l.length by omega)], (hbd _ (List.getElem_mem _)).1, (hbd _ (List.getElem_mem _)).2⟩))
  have HC := Lib.hid hc
  obtain ⟨i0, hi, hz0, hz1, hz2⟩ := info_parts ver_info
  have HI := Lib.hid hi
  have HZ0 := Lib.hid hz0
  have HZ1 := Lib.hid hz1
  have HZ2 := Lib.hid hz2
  clear hi hz0 hz1 hz2 hc hcode
  go_enter Try.func94, Try.ntmps94
  go_wp2_with fail
  have r0 := r5_one w ⟨0, -1, 0, 0, 1000⟩
  have c0 := HC.out.alloc (.cells #[.int .i64 0, .int .i64 (-1), .int .i64 0, .int .i64 0, .int .i64 1000] 34)
  have b0 : Kp B b w (w.alloc (.cells #[.int .i64 0, .int .i64 (-1), .int .i64 0, .int .i64 0, .int .i64 1000] 34)) := (Kp.refl B b w).alloc (by omega) _
  have hgb : w.heap.size ≠ b := by omega
  generalize w.alloc (.cells #[.int .i64 0, .int .i64 (-1), .int .i64 0, .int .i64 0, .int .i64 1000] 34) = W0 at r0 c0 b0 ⊢
  refine (HK.out 5 (by decide) W0 c0 b0).mono ?_
  rintro e W1 ⟨x, rfl, hx0, hx1, hc1, ho1⟩
  have r1 := r0.only ho1 hgb
  have b1 := b0.only ho1 hB
  obtain ⟨r, rfl⟩ := Int.eq_ofNat_of_zero_le hx0
  obtain ⟨v0, hv0⟩ : ∃ v, v = Value.slice (some ⟨w.heap.size, 0, none⟩) 1 1 := ⟨_, rfl⟩
  rw [← hv0] at r1 ⊢
  clear hv0 r0 c0 b0 ho1
  go_wp2_with fail
  go_loopw [3, 4, 5] (fun v s n wr => ∃ (m q : Nat) (st : Int), n = .int .i64 q ∧ s = .int .i64 st ∧ 0 < m ∧ m + q ≤ 5 ∧ R5 wr w.heap.size v m ∧ CurAt wr b a len cap ∧ Kp B b w wr) (fun _ _ n _ => (intOf n).toNat)
  case atStart => exact ⟨1, r, 0, rfl, rfl, by omega, by omega, r1, hc1, b1⟩
  case round =>
    obtain ⟨m, q, st, rfl, rfl, hm, hmq, hr, hcr, hbr⟩ := hrel
    clear r1 hc1 b1 hx0 hx1
    by_cases hq : 0 < q
    · have tq : decide (0 < q) = true := decide_eq_true hq
      obtain ⟨g, cp, rfl, hg0, hgw, hmc, hcell⟩ := hr.form hm
      have hgb2 : g ≠ b := by omega
      obtain ⟨y2, c2, f2⟩ := hcell ((m - 1) * 5 + 2) (by omega)
      obtain ⟨y3, c3, f3⟩ := hcell ((m - 1) * 5 + 3) (by omega)
      have HR := Lib.hid hr
      have HCR := Lib.hid hcr
      have HBR := Lib.hid hbr
      have s1 : IntKind.i64.wrap ((m : Int) - 1) = (m : Int) - 1 := IntWalk.i64_in _ (by omega)
      have s2 : (0 : Int) ≤ (m : Int) - 1 := by omega
      have s3 : ((m : Int) - 1).toNat = m - 1 := by omega
      have s4 : (m : Int) - 1 < (m : Int) := by omega
      have s5 : (1 : Int) ≤ (m : Int) := by omega
      clear hcell hr hcr hbr
      go_wp2_with fail
      go_region_held3 (fun w' => w'.cell? ⟨g, (m - 1) * 5 + 2, none⟩ = some (.int .i64 y2)) (first | (exact (Go.Proofs.Ytdfhnngcddaccaa.find.oth _ _ (by omega)).trans (by assumption)) | go_keep) (first | (go_at_call 34; refine (HK.out 3 (by decide) wr.drew HCR.out HBR.out.drew).mono ?_; rintro e W2 ⟨x, rfl, hx0, hx1, hc2, ho2⟩; have d2 := (World.cell?_of_block (w := wr.drew) (a := ⟨g, (m - 1) * 5 + 2, none⟩) (ho2.block g hgb2)).trans c2; have d3 := (World.cell?_of_block (w := wr.drew) (a := ⟨g, (m - 1) * 5 + 3, none⟩) (ho2.block g hgb2)).trans c3; have e3 := (World.frozen?_of_block (w := wr.drew) (a := ⟨g, (m - 1) * 5 + 3, none⟩) (ho2.block g hgb2)).trans f3))
      generalize IntKind.i64.wrap (y2 + x) = Y
      have r2 := (R5.only (w := wr.drew) HR.out ho2 hgb2).set (i := (m - 1) * 5 + 3) (by omega) Y
      have k2 := cur_set (i := (m - 1) * 5 + 3) hc2 hgb2 (.int .i64 Y)
      have b2 := (HBR.out.drew.only ho2 hB).setCell (p := ⟨g, (m - 1) * 5 + 3, none⟩) (by omega) (by show w.heap.size ≤ g; omega) (.int .i64 Y)
      have c5 : (W2.setCell ⟨g, (m - 1) * 5 + 3, none⟩ (.int .i64 Y)).cell? ⟨g, (m - 1) * 5 + 3, none⟩ = some (.int .i64 Y) := Go.Proofs.Ytdfhnngcddaccaa.find.sam d3
      clear d2 d3 e3 hc2 ho2 c2 c3 f2 f3 hx0 hx1
      rename_i hHeld
      clear hHeld
      generalize W2.setCell ⟨g, (m - 1) * 5 + 3, none⟩ (.int .i64 Y) = V2 at r2 k2 b2 c5 ⊢
      have R2 := Lib.hid r2
      have K2 := Lib.hid k2
      have B2 := Lib.hid b2
      clear r2 k2 b2
      go_wp2_with fail
      go_region_held3 (fun w' => w'.cell? ⟨g, (m - 1) * 5 + 3, none⟩ = some (.int .i64 Y)) (first | assumption | go_keep) (first | (go_at_call 34; refine (HK.out 2 (by decide) V2.drew K2.out B2.out.drew).mono ?_; rintro e W3 ⟨x, rfl, hx0, hx1, hc3, ho3⟩; have d5 := (World.cell?_of_block (w := V2.drew) (a := ⟨g, (m - 1) * 5 + 3, none⟩) (ho3.block g hgb2)).trans c5))
      all_goals
        generalize IntKind.i64.wrap (IntKind.i64.wrap (max st Y + 1) + x) = st2
        have r3 := R5.only (w := V2.drew) R2.out ho3 hgb2
        have b3 := B2.out.drew.only ho3 hB
        have R3 := Lib.hid r3
        have K3 := Lib.hid hc3
        have B3 := Lib.hid b3
        clear r3 hc3 b3 ho3 d5 c5 hx0 hx1
        go_wp2_with fail
        refine (HK.out 4 (by decide) W3 K3.out B3.out).mono ?_
        rintro e W4 ⟨x4, rfl, hx0, hx1, hc4, ho4⟩
        have r4 := R3.out.only ho4 hgb2
        have b4 := B3.out.only ho4 hB
        obtain ⟨y4, c4, f4⟩ := (r4.cells hm).2.2.2 ((m - 1) * 5 + 4) (by omega)
        have R4 := Lib.hid (fun y => r4.set (i := (m - 1) * 5 + 4) (by omega) y)
        have K4 := Lib.hid (fun u => cur_set (i := (m - 1) * 5 + 4) hc4 hgb2 u)
        have B4 := Lib.hid (fun u => b4.setCell (p := ⟨g, (m - 1) * 5 + 4, none⟩) (by omega) (by show w.heap.size ≤ g; omega) u)
        clear r4 hc4 b4 ho4 hx0 hx1
        go_wp2_with fail
        have r5 := R4.out (max 1 (wrap64 (st2 - x4)))
        have k5 := K4.out (.int .i64 (max 1 (wrap64 (st2 - x4))))
        have b5 := B4.out (.int .i64 (max 1 (wrap64 (st2 - x4))))
        clear R4 K4 B4 c4 f4
        generalize W4.setCell ⟨g, (m - 1) * 5 + 4, none⟩ (.int .i64 (max 1 (wrap64 (st2 - x4)))) = V4 at r5 k5 b5 ⊢
        refine (HK.out 9 (by decide) V4 k5 b5).mono ?_
        rintro e W5 ⟨x5, rfl, hx0, hx1, hc6, ho6⟩
        have r6 := r5.only ho6 hgb2
        have b6 := b5.only ho6 hB
        have HQ := Lib.hid (HP.out W5 hc6 b6 [-1, 0, 5, 7, 42, 99] 6 (by decide) (by decide) rfl (by decide))
        have r7 := r6.alloc (.cells #[.int .i64 (-1), .int .i64 0, .int .i64 5, .int .i64 7, .int .i64 42, .int .i64 99] 3)
        have b7 := b6.alloc (by omega) (.cells #[.int .i64 (-1), .int .i64 0, .int .i64 5, .int .i64 7, .int .i64 42, .int .i64 99] 3)
        have R7 := Lib.hid r7
        have B7 := Lib.hid b7
        clear r5 k5 b5 r6 b6 r7 b7 hc6 ho6
        go_wp2_with fail
        refine HQ.out.mono ?_
        rintro e W6 ⟨v6, rfl, hv0, hv1, hc8, ho8⟩
        obtain ⟨l, hll, hown⟩ := R5.only R7.out ho8 hgb2
        have b8 := B7.out.only ho8 hB
        have HOWN := Lib.hid hown
        have K8 := Lib.hid hc8
        have B8 := Lib.hid b8
        have HLL := Lib.hid hll
        have hws : w.heap.size ≤ W6.heap.size := b8.size
        have hmax : m + 1 ≤ maxLen := by unfold maxLen; omega
        have hbyt : (m + 1) * 40 ≤ 140737488355328 := by omega
        have hbase : ∀ o, w.heap.size ≤ (W6.alloc o).heap.size := fun o => by simp; omega
        clear hown hc8 b8 hll ho8 HQ R7 B7 hv0 hv1
        go_wp2_with (at_builtin; refine wpList_append_own _ rfl _ _ 45 rfl w.heap.size 34 i0 (.agg #[.int .i64 0, .int .i64 0, .int .i64 0, .int .i64 0, .int .i64 0]) 5 40 Try.underlying45 HI.out HZ0.out HZ1.out HZ2.out rfl (by decide) _ _ _ rfl (HOWN.out.alloc _) ⟨_, 0, none⟩ 1 1 [.int .i64 (1 + x5), .int .i64 v6, .int .i64 st2, .int .i64 st2, .int .i64 1000] rfl rfl (cells5 _ ⟨1 + x5, v6, st2, st2, 1000⟩ _) (one5 ⟨1 + x5, v6, st2, st2, 1000⟩) hmax hbyt (hbase _) ?_)
        intro v' w1 hown' hgrow _
        have hb4 : Kp B b w w1 := (B8.out.alloc (by omega) _).grown hgrow (by omega) (fun k hk => by have := (HOWN.out.lt k hk).1; omega)
        have hc4 : CurAt w1 b a len cap := (K8.out.alloc _).grown hgrow (fun e => by have := (HOWN.out.lt b e.symm).1; omega)
        have hr4 : R5 w1 w.heap.size v' (m + 1) := ⟨l ++ [⟨1 + x5, v6, st2, st2, 1000⟩], by simp [HLL.out], by rw [flat_snoc]; exact hown'⟩
        have HB4 := Lib.hid hb4
        have HC4 := Lib.hid hc4
        have HR4 := Lib.hid hr4
        clear hown' hgrow hb4 hc4 hr4 hmax hbyt hbase
        have u1 : IntKind.i64.wrap ((q : Int) - 1) = ((q - 1 : Nat) : Int) := by rw [IntWalk.i64_in _ (by omega)]; omega
        go_wp2_with fail
        go_roundw
        case rel => exact ⟨m + 1, q - 1, st2, by go_num, rfl, by omega, by omega, HR4.out, HC4.out, HB4.out⟩
        case measure => simp [intOf]; omega
    · have tq : decide (0 < q) = false := decide_eq_false hq
      have HR := Lib.hid hr
      have HCR := Lib.hid hcr
      have HBR := Lib.hid hbr
      clear hr hcr hbr
      go_wp2_with fail
      go_ret
      exact ⟨_, m, rfl, hm, by omega, HR.out, HCR.out, HBR.out⟩
end Go.Proofs.Ytdfhnngcddaccaa.draw
