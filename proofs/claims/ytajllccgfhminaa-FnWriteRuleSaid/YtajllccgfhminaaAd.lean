/- Chapter 6 of the program: a read added to a transaction's box, its ends moved. -/
import Derived.Test.YtajllccgfhminaaIsr
import Derived.Test.YtajllccgfhminaaBs
import Derived.Lib.MinMax
namespace Go.Proofs.Ytajllccgfhminaa.ad
open Go.ChangeShapes Go.WideShapes Go.ChangeAt Go.RowKit
open Go.Proofs.Ytajllccgfhminaa.el2 Go.Proofs.Ytajllccgfhminaa.tx Go.Proofs.Ytajllccgfhminaa.seq Go.Proofs.Ytajllccgfhminaa.tv Go.Proofs.Ytajllccgfhminaa.tf Go.Proofs.Ytajllccgfhminaa.tm Go.Proofs.Ytajllccgfhminaa.ap Go.Proofs.Ytajllccgfhminaa.bx Go.Proofs.Ytajllccgfhminaa.cl Go.Proofs.Ytajllccgfhminaa.ro Go.Proofs.Ytajllccgfhminaa.ao Go.Proofs.Ytajllccgfhminaa.ins Go.Proofs.Ytajllccgfhminaa.bs Go.Proofs.Ytajllccgfhminaa.isr
set_option linter.unusedVariables false
set_option linter.unusedSimpArgs false
/-- the box of a transaction with lists of its own, all from base on -/
structure Bo (w : World) (base tb : Nat) (x : Hd) (A : Option Addr) (n c : Nat) (R : List E2) (A2 : Option Addr) (n2 c2 : Nat) (S : List E2) : Prop where
  bx : Bx w tb x (.slice A n c) (.slice A2 n2 c2)
  own : OwnT w base (.slice A n c) n R (.slice A2 n2 c2) n2 S
  le : base ≤ tb
theorem heap_lt {w : World} {g : Nat} {o : Obj} (h : w.heap[g]? = some o) : g < w.heap.size := (Array.getElem?_eq_some_iff.1 h).1
theorem own_block {w : World} {base n size : Nat} {e : TypeId} {v : Value} {xs : List Value} (h : w.ownsRow base e size v n xs) {g : Nat} (hg : v.ownBlock = some g) : base ≤ g ∧ ∃ cur, w.heap[g]? = some (.cells cur e (0, 0)) := by
  rcases h.2 with ⟨e1, _⟩ | ⟨g', cap, cur, e1, hb, hh, _⟩
  · rw [e1] at hg; simp [Value.ownBlock] at hg
  · rw [e1] at hg
    simp [Value.ownBlock] at hg
    subst hg
    exact ⟨hb, cur, hh⟩
theorem bx_heap {w : World} {b : Nat} {x : Hd} {u v : Value} (h : Bx w b x u v) : ∃ cur, w.heap[b]? = some (.cells cur 27 (0, 0)) := by
  obtain ⟨c, hc, _⟩ := h
  exact ⟨c, hc⟩
theorem type_ne {w : World} {g g2 : Nat} {c c2 : Array Value} {t t2 : TypeId} (h : w.heap[g]? = some (.cells c t (0, 0))) (h2 : w.heap[g2]? = some (.cells c2 t2 (0, 0))) (ht : t ≠ t2) : g ≠ g2 := by
  rintro rfl
  rw [h] at h2
  injection h2 with e
  injection e with _ e2
  exact ht e2
/-- a row of the call's own is as it was where its block is -/
theorem own_same {w w' : World} {base n size : Nat} {e : TypeId} {v : Value} {xs : List Value} (h : w.ownsRow base e size v n xs) (hk : ∀ g, v.ownBlock = some g → w'.heap[g]? = w.heap[g]?) : w'.ownsRow base e size v n xs :=
  ⟨h.1, by
    rcases h.2 with h0 | ⟨g, cap, cur, e1, h1, h2, h3⟩
    · exact .inl h0
    · exact .inr ⟨g, cap, cur, e1, h1, (hk g (by rw [e1]; simp [Value.ownBlock])).trans h2, h3⟩⟩
section
variable {w w' : World} {base tb n c n2 c2 : Nat} {x : Hd} {A A2 : Option Addr} {R S : List E2}
theorem Bo.lt (h : Bo w base tb x A n c R A2 n2 c2 S) : tb < w.heap.size := h.bx.lt
theorem Bo.keep (h : Bo w base tb x A n c R A2 n2 c2 S) (hb : Below w.heap.size w w') : Bo w' base tb x A n c R A2 n2 c2 S := ⟨h.bx.keep hb h.lt, h.own.keep hb, h.le⟩
theorem Bo.vs (h : Bo w base tb x A n c R A2 n2 c2 S) : Vs w w.heap.size A n R := by
  obtain ⟨A', c', e, hv, _⟩ := own_vs h.own.1 (by have := h.own.1.1; rw [flat_len] at this; omega)
  injection e with e1 _ e3
  subst e1
  exact hv
theorem Bo.len (h : Bo w base tb x A n c R A2 n2 c2 S) : R.length = n := by have := h.own.1.1; rw [flat_len] at this; omega
/-- the lists are in no box of a transaction -/
theorem Bo.ne (h : Bo w base tb x A n c R A2 n2 c2 S) : (∀ g, (Value.slice A n c).ownBlock = some g → g ≠ tb) ∧ (∀ g, (Value.slice A2 n2 c2).ownBlock = some g → g ≠ tb) ∧ ∀ g g2, (Value.slice A n c).ownBlock = some g → (Value.slice A2 n2 c2).ownBlock = some g2 → g ≠ g2 := by
  obtain ⟨cb, hb⟩ := bx_heap h.bx
  refine ⟨fun g hg => ?_, fun g hg => ?_, fun g g2 hg hg2 => ?_⟩
  · obtain ⟨_, cur, hh⟩ := own_block h.own.1 hg
    exact type_ne hh hb (by decide)
  · obtain ⟨_, cur, hh⟩ := own_block h.own.2 hg
    exact type_ne hh hb (by decide)
  · obtain ⟨_, cur, hh⟩ := own_block h.own.1 hg
    obtain ⟨_, cur2, hh2⟩ := own_block h.own.2 hg2
    exact type_ne hh hh2 (by decide)
theorem Bo.put4 (h : Bo w base tb x A n c R A2 n2 c2 S) (z : Int) : Bo (w.setCell ⟨tb, 4, none⟩ (.int .i64 z)) base tb { x with l := z } A n c R A2 n2 c2 S :=
  have ho : Off tb w (w.setCell ⟨tb, 4, none⟩ (.int .i64 z)) := (Off.refl tb w).setCell (p := ⟨tb, 4, none⟩) rfl _
  ⟨h.bx.set4 z, ⟨own_same h.own.1 fun g hg => ho.block g (h.ne.1 g hg), own_same h.own.2 fun g hg => ho.block g (h.ne.2.1 g hg)⟩, h.le⟩
theorem Bo.put5 (h : Bo w base tb x A n c R A2 n2 c2 S) (z : Int) : Bo (w.setCell ⟨tb, 5, none⟩ (.int .i64 z)) base tb { x with h := z } A n c R A2 n2 c2 S :=
  have ho : Off tb w (w.setCell ⟨tb, 5, none⟩ (.int .i64 z)) := (Off.refl tb w).setCell (p := ⟨tb, 5, none⟩) rfl _
  ⟨h.bx.set5 z, ⟨own_same h.own.1 fun g hg => ho.block g (h.ne.1 g hg), own_same h.own.2 fun g hg => ho.block g (h.ne.2.1 g hg)⟩, h.le⟩
/-- a new list of reads, made by what changes the old one's row alone -/
theorem Bo.put7 (h : Bo w base tb x A n c R A2 n2 c2 S) {A' : Option Addr} {n' c' : Nat} {R' : List E2} (ho : w'.ownsRow base 37 2 (.slice A' n' c') n' (flat R')) (hg : w.grownBy w' (Value.slice A n c).ownBlock) :
    Bx w' tb x (.slice A n c) (.slice A2 n2 c2) ∧ Bo (w'.setCell ⟨tb, 7, none⟩ (.slice A' n' c')) base tb x A' n' c' R' A2 n2 c2 S ∧ Below base w (w'.setCell ⟨tb, 7, none⟩ (.slice A' n' c')) := by
  have hb : Bx w' tb x (.slice A n c) (.slice A2 n2 c2) := h.bx.of_block (hg.block tb h.lt fun e => h.ne.1 tb e.symm rfl)
  have hoff : Off tb w' (w'.setCell ⟨tb, 7, none⟩ (.slice A' n' c')) := (Off.refl tb w').setCell (p := ⟨tb, 7, none⟩) rfl _
  obtain ⟨cb, hcb⟩ := bx_heap hb
  have h2 : w'.ownsRow base 55 2 (.slice A2 n2 c2) n2 (flat S) := own_same h.own.2 fun g hg2 => hg.block g (by obtain ⟨_, cur, hh⟩ := own_block h.own.2 hg2; exact heap_lt hh) fun e => h.ne.2.2 g g e.symm hg2 rfl
  refine ⟨hb, ⟨hb.set7 _, ⟨own_same ho fun g hg1 => hoff.block g ?_, own_same h2 fun g hg2 => hoff.block g ?_⟩, h.le⟩, ?_⟩
  · obtain ⟨_, cur, hh⟩ := own_block ho hg1
    exact type_ne hh hcb (by decide)
  · obtain ⟨_, cur, hh⟩ := own_block h2 hg2
    exact type_ne hh hcb (by decide)
  · refine (Below.trans ⟨hg.os, hg.tape, hg.output, hg.size, fun k hk => hg.block k (Nat.lt_of_lt_of_le hk (Nat.le_trans h.le (Nat.le_of_lt h.lt))) fun e => ?_⟩ (hoff.below h.le))
    have := (own_block h.own.1 e.symm).1
    omega
end
set_option maxRecDepth 100000 in
set_option maxHeartbeats 1600000 in
theorem raise_low {w : World} {base tb n c n2 c2 : Nat} {x : Hd} {A A2 : Option Addr} {R S : List E2} (z : Int) (h : Bo w base tb x A n c R A2 n2 c2 S) :
    Calls Try.prog 58 #[.pointer (some ⟨tb, 0, none⟩), .int .i64 z] w fun e w' => e = .returned (.tuple #[]) ∧ Bo w' base tb { x with l := max x.l z } A n c R A2 n2 c2 S ∧ Below base w w' := by
  have H := Lib.hid h
  obtain ⟨t0, t1, t2, t3, t4, t5, t6, t7, t8⟩ := h.bx.tb
  have f4 := h.bx.fz 4
  clear h
  go_enter Try.func58, Try.ntmps58
  go_wp2_with fail
  go_end0
  exact ⟨rfl, H.out.put4 _, ((Off.refl tb w).setCell (p := ⟨tb, 4, none⟩) rfl _).below H.out.le⟩
set_option maxRecDepth 100000 in
set_option maxHeartbeats 1600000 in
theorem lower_high {w : World} {base tb n c n2 c2 : Nat} {x : Hd} {A A2 : Option Addr} {R S : List E2} (z : Int) (h : Bo w base tb x A n c R A2 n2 c2 S) :
    Calls Try.prog 59 #[.pointer (some ⟨tb, 0, none⟩), .int .i64 z] w fun e w' => e = .returned (.tuple #[]) ∧ Bo w' base tb { x with h := min x.h z } A n c R A2 n2 c2 S ∧ Below base w w' := by
  have H := Lib.hid h
  obtain ⟨t0, t1, t2, t3, t4, t5, t6, t7, t8⟩ := h.bx.tb
  have f5 := h.bx.fz 5
  clear h
  go_enter Try.func59, Try.ntmps59
  go_wp2_with fail
  go_end0
  exact ⟨rfl, H.out.put5 _, ((Off.refl tb w).setCell (p := ⟨tb, 5, none⟩) rfl _).below H.out.le⟩
set_option maxRecDepth 100000 in
set_option maxHeartbeats 3200000 in
theorem add_read {w : World} {base tb n c n2 c2 : Nat} {x : Hd} {A A2 : Option Addr} {R S : List E2} (m : E2) (h : Bo w base tb x A n c R A2 n2 c2 S) (hn : n ≤ 2097152) (hs : SqP okR folR R) :
    Calls Try.prog 57 #[.pointer (some ⟨tb, 0, none⟩), .agg #[.int .i64 m.a, .int .i64 m.b]] w fun e w' => e = .returned (.tuple #[]) ∧ ∃ A' c', Bo w' base tb x A' (insR m R).length c' (insR m R) A2 n2 c2 S ∧ Below base w w' := by
  have HS := Lib.hid hs
  have hlt := h.lt
  have hle := h.le
  have hb0 := new1 w (.cells #[.int .i64 m.a, .int .i64 m.b] 37)
  have mb0 := boxed w m 37
  have hz0 : (w.alloc (.cells #[.int .i64 m.a, .int .i64 m.b] 37)).heap.size = w.heap.size + 1 := by simp
  have h0 := h.keep hb0
  have hln := h.len
  clear h hs
  go_enter Try.func57, Try.ntmps57
  go_wp2_with fail
  generalize w.alloc _ = W0 at hb0 mb0 hz0 h0 ⊢
  have H0 := Lib.hid h0
  have B0 := Lib.hid hb0
  have M0 := Lib.hid mb0
  obtain ⟨m0, m1⟩ := atFlat mb0
  obtain ⟨t0, t1, t2, t3, t4, t5, t6, t7, t8⟩ := h0.bx.tb
  clear hb0 mb0 h0 t0 t1 t2 t3 t4 t5 t6 t8
  have hlt0 : tb < W0.heap.size := by omega
  have hbk0 : Below W0.heap.size W0 W0.drew := (Below.refl _ _).drew
  go_region_held3 (fun w' => w'.cell? ⟨w.heap.size, 0, none⟩ = some (.int .i64 m.a) ∧ w'.cell? ⟨w.heap.size, 1, none⟩ = some (.int .i64 m.b) ∧ w'.cell? ⟨tb, 7, none⟩ = some (.slice A n c)) (go_keep) (first | (go_at_call 109; (with_reducible refine (lib_bsearch m hn (H0.out.vs.below hbk0) (Nat.le_refl _) HS.out).mono ?_); rintro e W1 ⟨he, hb'⟩; subst he; have hbk1 := hbk0.trans (hb'.mono hbk0.size); have MM := M0.out.keep (show w.heap.size < W0.heap.size by omega) hbk1; have HH := H0.out.keep hbk1; obtain ⟨c0, c1⟩ := atFlat MM; obtain ⟨_, _, _, _, _, _, _, d7, _⟩ := HH.bx.tb))
  have B1 := Lib.hid (B0.out.trans (hbk1.mono B0.out.size))
  have M1 := Lib.hid MM
  have H1 := Lib.hid HH
  have hz1 : W0.heap.size ≤ W1.heap.size := hbk1.size
  clear hbk0 hbk1 hb' MM HH c0 c1 d7 m0 m1 t7
  obtain ⟨k, hk⟩ : ∃ k, posR m R = k := ⟨_, rfl⟩
  have hkn : k ≤ n := by have := posR_le m R; omega
  rw [hk]
  have HK := Lib.hid hk
  clear hk
  by_cases hf : R[k]? = some m
  · have hd : decide (R[k]? = some m) = true := decide_eq_true hf
    have HI : Hid (insR m R = R) := Lib.hid (ins_there (by rw [HK.out]; exact hf))
    rw [hd]
    clear hf hd
    go_wp2_with fail
    go_end0
    rw [HI.out, hln]
    exact ⟨rfl, _, _, H1.out, below_le B1.out (by omega)⟩
  · have hd : decide (R[k]? = some m) = false := decide_eq_false hf
    have HI : Hid (insR m R = R.take k ++ m :: R.drop k) := Lib.hid (by have := ins_new (m := m) (l := R) (by rw [HK.out]; exact hf); rw [HK.out] at this; exact this)
    rw [hd]
    clear hf hd
    go_wp2_with fail
    have hV : Below W1.heap.size W1 (W1.drew.alloc (.cells #[.int .i64 m.a, .int .i64 m.b] 37)) := ((Below.refl _ W1).drew).alloc (Nat.le_refl _) _
    have HV := Lib.hid (H1.out.keep hV)
    have hq : (W1.drew.alloc (.cells #[.int .i64 m.a, .int .i64 m.b] 37)).heap[W1.heap.size]? = some (.cells #[.int .i64 m.a, .int .i64 m.b] 37 (0, 0)) := heap_alloc_new W1.drew _
    have HQ := Lib.hid hq
    have hqg : ∀ g, A = some ⟨g, 0, none⟩ → W1.heap.size ≠ g := by
      intro g hg
      obtain ⟨_, cur, hh⟩ := own_block H1.out.own.1 (g := g) (by rw [hg]; simp [Value.ownBlock])
      have := heap_lt hh
      omega
    have HQG := Lib.hid hqg
    have hbV : base ≤ (W1.drew.alloc (.cells #[.int .i64 m.a, .int .i64 m.b] 37)).heap.size := by simp; omega
    have hVb := Lib.hid (below_le hV (show base ≤ W1.heap.size by omega))
    obtain ⟨m0, m1⟩ := atFlat M1.out
    obtain ⟨_, _, _, _, _, _, _, t7, _⟩ := H1.out.bx.tb
    have hlt1 : tb < W1.heap.size := by omega
    have hlm : w.heap.size < W1.heap.size := by omega
    clear hV hq hqg
    go_region_law (first | (go_simp; go_at_call 111; refine (lib_insert HV.out.own.1 hn hkn HQ.out HQG.out hbV).mono ?_; rintro e W2 ⟨A', c', rfl, ho, hg⟩; obtain ⟨hx, hB, hL⟩ := HV.out.put7 ho hg; obtain ⟨_, _, _, _, _, _, _, d7, _⟩ := hx.tb; have f7 := hx.fz 7))
    all_goals
      have F1 := Lib.hid hB
      have F2 := Lib.hid (below_le (B1.out) (show base ≤ w.heap.size by omega) |>.trans (hVb.out.trans hL))
      clear hx hB hL d7 f7 ho hg
      go_wp2_with fail
      go_end0
      rw [HI.out, ins_len' hln hkn]
      exact ⟨rfl, _, _, F1.out, F2.out⟩
end Go.Proofs.Ytajllccgfhminaa.ad
