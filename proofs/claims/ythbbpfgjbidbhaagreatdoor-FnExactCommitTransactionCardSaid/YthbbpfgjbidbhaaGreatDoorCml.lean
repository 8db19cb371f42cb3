/- What CommitTransaction's law does with the two results of a call: the boxes that they are laid into, what lies behind them, their marks. -/
import Derived.Test.YthbbpfgjbidbhaaGreatDoorCmi
import Derived.Test.YthbbpfgjbidbhaaGreatDoorXgc
import Derived.Test.YthbbpfgjbidbhaaGreatDoorLt
namespace Go.Proofs.YthbbpfgjbidbhaaGreatDoor.cml
open Go.ChangeShapes Go.WideShapes Go.ChangeAt Go.RowKit
open Go.Proofs.YthbbpfgjbidbhaaGreatDoor.sl Go.Proofs.YthbbpfgjbidbhaaGreatDoor.st Go.Proofs.YthbbpfgjbidbhaaGreatDoor.flat Go.Proofs.YthbbpfgjbidbhaaGreatDoor.os Go.Proofs.YthbbpfgjbidbhaaGreatDoor.oq Go.Proofs.YthbbpfgjbidbhaaGreatDoor.mv Go.Proofs.YthbbpfgjbidbhaaGreatDoor.mo Go.Proofs.YthbbpfgjbidbhaaGreatDoor.rg Go.Proofs.YthbbpfgjbidbhaaGreatDoor.cmi
open Go.Proofs.YthbbpfgjbidbhaaGreatDoor.el2 (new1 E2 Off)
open Go.Proofs.YthbbpfgjbidbhaaGreatDoor.tx (Hd TB)
open Go.Proofs.YthbbpfgjbidbhaaGreatDoor.bx (OwnT)
open Go.Proofs.YthbbpfgjbidbhaaGreatDoor.tm (OwT)
open Go.Proofs.YthbbpfgjbidbhaaGreatDoor.mt (MkG)
open Go.Proofs.YthbbpfgjbidbhaaGreatDoor.ow2 (OwS)
open Go.Proofs.YthbbpfgjbidbhaaGreatDoor.rx (chOf)
open Go.Proofs.YthbbpfgjbidbhaaGreatDoor.ct (cmC cmB insC wrK rdK wrC rdC onK)
open Go.Proofs.YthbbpfgjbidbhaaGreatDoor.fr (FR)
set_option linter.unusedVariables false
set_option linter.unusedSimpArgs false
/-! how many versions there are behind a commit -/
theorem cnt_nil : cnt [] = 0 := rfl
theorem cnt_cons (l : List Ver) (r : List (List Ver)) : cnt (l :: r) = l.length + cnt r := by simp [cnt]
theorem cnt_set : ∀ (C : List (List Ver)) (k : Nat) (l : List Ver), cnt (C.set k l) + (C.getD k []).length ≤ cnt C + l.length
  | [], k, l => by simp [cnt]
  | x :: r, 0, l => by rw [List.set_cons_zero, cnt_cons, cnt_cons]; simp; omega
  | x :: r, k + 1, l => by
    have := cnt_set r k l
    rw [List.set_cons_succ, cnt_cons, cnt_cons]
    simp only [List.getD_cons_succ]
    omega
theorem cnt_on {f : List Ver → List Ver} {d : Nat} (hf : ∀ l, (f l).length ≤ l.length + d) (C : List (List Ver)) (k : Int) : cnt (onK f C k) ≤ cnt C + d := by
  have h1 := cnt_set C k.toNat (f (chOf C k))
  have h2 := hf (chOf C k)
  unfold onK
  unfold chOf at *
  omega
theorem cnt_rd (z : Int) : ∀ (R : List E2) (C : List (List Ver)), cnt (R.foldl (rdC z) C) ≤ cnt C
  | [], C => Nat.le_refl _
  | m :: r, C => Nat.le_trans (cnt_rd z r _) (by
      have := cnt_on (f := Go.Proofs.YthbbpfgjbidbhaaGreatDoor.ct.rdL z m.b) (d := 0) (fun l => by rw [Go.Proofs.YthbbpfgjbidbhaaGreatDoor.ct.rdL, Go.Proofs.YthbbpfgjbidbhaaGreatDoor.ct.atJ_len]; omega) C m.a
      exact this)
theorem cnt_wr (i z h : Int) : ∀ (S : List E2) (C : List (List Ver)), cnt (S.foldl (wrC i z h) C) ≤ cnt C + S.length
  | [], C => Nat.le_refl _
  | m :: r, C => by
    have h1 := cnt_wr i z h r (wrC i z h C m)
    have h2 : cnt (wrC i z h C m) ≤ cnt C + 1 := cnt_on (f := Go.Proofs.YthbbpfgjbidbhaaGreatDoor.ct.wrL h (Go.Proofs.YthbbpfgjbidbhaaGreatDoor.ct.nwV i z m)) (d := 1) (fun l => by rw [Go.Proofs.YthbbpfgjbidbhaaGreatDoor.ct.wrL, List.length_append, Go.Proofs.YthbbpfgjbidbhaaGreatDoor.ct.atJ_len]; simp) C m.a
    simp only [List.foldl_cons, List.length_cons]
    omega
theorem cm_cnt (C : List (List Ver)) (x : Hd) (R S : List E2) (z : Int) : cnt (cmC C x R S z) ≤ cnt C + S.length := by
  unfold cmC
  split
  · unfold insC wrK rdK
    rw [List.take_of_length_le (Nat.le_refl _), List.take_of_length_le (Nat.le_refl _)]
    exact Nat.le_trans (cnt_wr _ _ _ S _) (Nat.add_le_add_right (cnt_rd z R C) _)
  · omega
theorem rows_le {C : List (List Ver)} {m : Nat} (h : cnt C ≤ m) : ∀ l ∈ C, l.length ≤ m := fun l hl => by
  obtain ⟨i, hi⟩ := List.getElem?_of_mem hl
  exact Nat.le_trans (Go.Proofs.YthbbpfgjbidbhaaGreatDoor.st.len_le hi) h
/-! what lies there -/
/-- the blocks of the two lists -/
def Lst (A2 : Option Addr) (n2 : Nat) (B2 : Option Addr) (n3 : Nat) (q : Nat) : Prop := (A2 = some ⟨q, 0, none⟩ ∧ 0 < n2) ∨ (B2 = some ⟨q, 0, none⟩ ∧ 0 < n3)
/-- the store's rows, the first j of them marked -/
def SB (w : World) (lo hi : Nat) (A : Option Addr) (n : Nat) (C : List (List Ver)) (j : Nat) (L : Nat → Prop) : Prop :=
  n = 0 ∨ ∃ g F D, A = some ⟨g, 0, none⟩ ∧ MO w lo hi g n F D C 1 j ∧ (∀ q, ¬ Off9 F C q → lo ≤ q ∧ q < hi) ∧ ∀ q, L q → q ≠ g ∧ Off9 F C q
structure JO (w : World) (lo hi : Nat) (A : Option Addr) (n c : Nat) (C : List (List Ver)) (A2 : Option Addr) (n2 : Nat) (R : List E2) (B2 : Option Addr) (n3 : Nat) (S : List E2) : Prop where
  oq : OQ w (fun q => lo ≤ q ∧ q < hi) (.slice A n c) n C
  sb : SB w lo hi A n C 0 (Lst A2 n2 B2 n3)
  ot : OwT w lo hi A2 n2 R B2 n3 S
structure JM (w : World) (lo hi : Nat) (A : Option Addr) (n : Nat) (C : List (List Ver)) (A2 : Option Addr) (n2 : Nat) (R : List E2) (B2 : Option Addr) (n3 : Nat) (S : List E2) : Prop where
  len : C.length = n
  sb : SB w lo hi A n C n (Lst A2 n2 B2 n3)
  ot : OwT w lo hi A2 n2 R B2 n3 S
structure JN (w : World) (lo hi : Nat) (A : Option Addr) (n : Nat) (C : List (List Ver)) (A2 : Option Addr) (n2 : Nat) (B2 : Option Addr) (n3 : Nat) (k0 : Int) : Prop where
  len : C.length = n
  sb : SB w lo hi A n C n (Lst A2 n2 B2 n3)
  mg : MkG w lo hi A2 n2 B2 n3 k0
section
variable {w w' : World} {lo hi n c n2 n3 j a b : Nat} {A A2 B2 : Option Addr} {C : List (List Ver)} {R S : List E2} {L : Nat → Prop} {k0 : Int}
theorem SB.fr (h : SB w lo hi A n C j L) (hf : FR a b w w') (hd : hi ≤ a ∨ b ≤ lo) (hs : hi ≤ w.heap.size) : SB w' lo hi A n C j L :=
  h.imp id fun ⟨g, F, D, e, hm, hr, hL⟩ => ⟨g, F, D, e, hm.kept (hf.block g (by have := hm.gh; omega) (by have := hm.gl; have := hm.gh; omega)) (fun q hq => hf.block q (by have := hr q hq; omega) (by have := hr q hq; omega)), hr, hL⟩
theorem JO.fr (h : JO w lo hi A n c C A2 n2 R B2 n3 S) (hf : FR a b w w') (hd : hi ≤ a ∨ b ≤ lo) (hs : hi ≤ w.heap.size) : JO w' lo hi A n c C A2 n2 R B2 n3 S where
  oq := h.oq.keep fun k hk hq => hf.block k hk (by omega)
  sb := h.sb.fr hf hd hs
  ot := h.ot.fr hf hd hs
theorem JM.fr (h : JM w lo hi A n C A2 n2 R B2 n3 S) (hf : FR a b w w') (hd : hi ≤ a ∨ b ≤ lo) (hs : hi ≤ w.heap.size) : JM w' lo hi A n C A2 n2 R B2 n3 S := ⟨h.len, h.sb.fr hf hd hs, h.ot.fr hf hd hs⟩
theorem JN.fr (h : JN w lo hi A n C A2 n2 B2 n3 k0) (hf : FR a b w w') (hd : hi ≤ a ∨ b ≤ lo) (hs : hi ≤ w.heap.size) : JN w' lo hi A n C A2 n2 B2 n3 k0 := ⟨h.len, h.sb.fr hf hd hs, h.mg.1.fr hf hd hs, h.mg.2.fr hf hd hs⟩
theorem JO.below (h : JO w lo hi A n c C A2 n2 R B2 n3 S) (hb : Below w.heap.size w w') (hs : hi ≤ w.heap.size) : JO w' lo hi A n c C A2 n2 R B2 n3 S := h.fr (FR.of_below (lo := w.heap.size) (hi := w.heap.size) hb) (.inl hs) hs
theorem JO.rs (h : JO w lo hi A n c C A2 n2 R B2 n3 S) (hC : ∀ l ∈ C, l.length ≤ 140737488355328) : Rs w w.heap.size A n C := h.oq.rs hC rfl
theorem JO.r (h : JO w lo hi A n c C A2 n2 R B2 n3 S) (hs : hi ≤ w.heap.size) : Go.Proofs.YthbbpfgjbidbhaaGreatDoor.el2.Vs w w.heap.size A2 n2 R := h.ot.1.vs hs
theorem JO.s (h : JO w lo hi A n c C A2 n2 R B2 n3 S) (hs : hi ≤ w.heap.size) : Go.Proofs.YthbbpfgjbidbhaaGreatDoor.el2.Vs w w.heap.size B2 n3 S := h.ot.2.vs hs
theorem not_off {F : Nat → Option Addr} {q : Nat} (h : ¬ Off9 F C q) : ∃ i l, C[i]? = some l ∧ F i = some ⟨q, 0, none⟩ := Classical.byContradiction fun h2 => h fun i l hl e => h2 ⟨i, l, hl, e⟩
theorem JO.of {c2 d2 : Nat} (hos : OS w lo (.slice A n c) n C) (hot : OwnT w lo (.slice A2 n2 c2) n2 R (.slice B2 n3 d2) n3 S) (h1 : R.length = n2) (h2 : S.length = n3) : JO w lo w.heap.size A n c C A2 n2 R B2 n3 S := by
  have ho := Go.Proofs.YthbbpfgjbidbhaaGreatDoor.lt.own_of hot (Nat.le_refl _) h1 h2
  refine ⟨OQ.of_os hos, ?_, ho⟩
  rcases Nat.eq_zero_or_pos n with h0 | h0
  · exact .inl h0
  obtain ⟨g, cap, F, D, hv, hm, ⟨cur, hg⟩, hr⟩ := MO.of_os hos h0 (Nat.le_refl _) 1
  injection hv with hA _ _
  refine .inr ⟨g, F, D, hA, hm, fun q hq => ⟨?_, ?_⟩, fun q hq => ⟨?_, ?_⟩⟩
  · obtain ⟨i, l, hl, e⟩ := not_off hq
    obtain ⟨_, c', ho', _⟩ := hm.rowO i l hl (by omega)
    exact (ho'.lt q (by rw [e]; rfl)).1
  · obtain ⟨cur', h'⟩ := hr q hq
    exact lt_of_cells h'
  · rcases hq with ⟨e, hp⟩ | ⟨e, hp⟩
    · exact (apart_list ho.1 (by decide) hg e hp).symm
    · exact (apart_list ho.2 (by decide) hg e hp).symm
  · refine Classical.byContradiction fun hn => ?_
    obtain ⟨cur', h'⟩ := hr q hn
    rcases hq with ⟨e, hp⟩ | ⟨e, hp⟩
    · exact apart_list ho.1 (by decide) h' e hp rfl
    · exact apart_list ho.2 (by decide) h' e hp rfl
theorem OwS.kept {t : TypeId} {m : Nat} {A9 : Option Addr} {l : List E2} (h : OwS t w lo hi A9 m l) (hk : ∀ q, A9 = some ⟨q, 0, none⟩ → 0 < m → w'.heap[q]? = w.heap[q]?) : OwS t w' lo hi A9 m l := ⟨h.1, fun hn => by
  obtain ⟨g, M, f, e, h1, h2, hr, hM⟩ := h.2 hn
  exact ⟨g, M, f, e, h1, h2, hr.of_block (hk g e hn), hM⟩⟩
theorem OwS.lt {t : TypeId} {m q : Nat} {A9 : Option Addr} {l : List E2} (h : OwS t w lo hi A9 m l) (e : A9 = some ⟨q, 0, none⟩) (hp : 0 < m) : q < hi := by
  obtain ⟨g, M, f, e2, h1, h2, _⟩ := h.2 hp
  rw [e] at e2
  injection e2 with e2
  injection e2 with e2
  omega
theorem JO.joA (h : JO w lo hi A n c C A2 n2 R B2 n3 S) (hs : hi ≤ w.heap.size) (o : Obj) : JO (w.alloc o) lo hi A n c C A2 n2 R B2 n3 S := h.below (new1 w o) hs
theorem JO.joD (h : JO w lo hi A n c C A2 n2 R B2 n3 S) (hs : hi ≤ w.heap.size) : JO w.drew lo hi A n c C A2 n2 R B2 n3 S := h.below ((Below.refl _ w).drew) hs
theorem JO.joS {p : Addr} {u : Value} (hn : ¬ (lo ≤ p.block ∧ p.block < hi)) (hs : hi ≤ w.heap.size) (h : JO w lo hi A n c C A2 n2 R B2 n3 S) : JO (w.setCell p u) lo hi A n c C A2 n2 R B2 n3 S :=
  h.fr (a := p.block) (b := p.block + 1) ⟨rfl, rfl, rfl, by simp [World.setCell], fun k _ hk => Below.heap_setCell w p u k (by omega)⟩ (by omega) hs
end
/-- the two boxes of a result, and what lies behind them -/
structure RgL (W V : World) (sb tb lo hi : Nat) (A : Option Addr) (n c : Nat) (C : List (List Ver)) (x : Hd) (A2 : Option Addr) (n2 c2 : Nat) (R : List E2) (B2 : Option Addr) (n3 d2 : Nat) (S : List E2) : Prop where
  bel : Below W.heap.size W V
  sbx : SBx W V sb (.slice A n c)
  tbx : TBx W V tb x (.slice A2 n2 c2) (.slice B2 n3 d2)
  jo : JO V lo hi A n c C A2 n2 R B2 n3 S
  l1 : W.heap.size ≤ lo
  l2 : hi ≤ V.heap.size
  s1 : ¬ (lo ≤ sb ∧ sb < hi)
  t1 : ¬ (lo ≤ tb ∧ tb < hi)
/-! the marks -/
theorem mark_js {w : World} {lo hi n c n2 n3 : Nat} {A A2 B2 : Option Addr} {C : List (List Ver)} {R S : List E2} (hn : n ≤ 1048576) (hc : cnt C ≤ 1048576) (h : JO w lo hi A n c C A2 n2 R B2 n3 S) (hw : hi ≤ w.heap.size) :
    Calls Tryz.prog 12 #[.agg #[.slice A n c], .int .i64 1] w fun e w' => e = .returned (.int .i64 (1 + ((cnt C * 5 : Nat) : Int))) ∧ JM w' lo hi A n C A2 n2 R B2 n3 S ∧ FR lo hi w w' := by
  have hlen := h.oq.len
  rcases h.sb with h0 | ⟨g, F, D, rfl, hm, hr, hL⟩
  · subst h0
    obtain rfl : C = [] := List.eq_nil_of_length_eq_zero hlen
    exact (mark_s0 1).mono fun e w' ⟨he, hb⟩ => ⟨by rw [he]; simp [cnt], ⟨rfl, .inl rfl, h.ot.fr (FR.of_below (lo := w.heap.size) (hi := w.heap.size) hb) (.inl hw) hw⟩, FR.of_below hb⟩
  · exact (mark_s (by omega) (by omega) hn hc hm hw (fun q hq => by have := hr q hq; omega)).mono fun e w' ⟨he, hm', hf, hk⟩ => ⟨he, ⟨hlen, .inr ⟨g, F, D, rfl, hm', hr, hL⟩, OwS.kept h.ot.1 fun q e hp => hk q (by have := OwS.lt h.ot.1 e hp; omega) (hL q (.inl ⟨e, hp⟩)).2, OwS.kept h.ot.2 fun q e hp => hk q (by have := OwS.lt h.ot.2 e hp; omega) (hL q (.inr ⟨e, hp⟩)).2⟩, hf⟩
theorem mark_jt {w : World} {lo hi n n2 n3 c2 d2 : Nat} {A A2 B2 : Option Addr} {C : List (List Ver)} {R S : List E2} (x : Hd) {k0 : Int} (h0 : 0 ≤ k0) (hk0 : k0 ≤ 1125899906842624) (hn2 : n2 ≤ 1048576) (hn3 : n3 ≤ 1048576) (h : JM w lo hi A n C A2 n2 R B2 n3 S) (hw : hi ≤ w.heap.size) :
    Calls Tryz.prog 13 #[.agg #[.int .i64 x.i, .int .i64 x.s, .int .i64 x.t, .int .i64 x.b, .int .i64 x.l, .int .i64 x.h, .int .i64 x.c, .slice A2 n2 c2, .slice B2 n3 d2], .int .i64 k0] w fun e w' => e = .returned (.int .i64 (k0 + (n2 * 2 : Nat) + (n3 * 2 : Nat))) ∧ JN w' lo hi A n C A2 n2 B2 n3 k0 ∧ FR lo hi w w' :=
  (Go.Proofs.YthbbpfgjbidbhaaGreatDoor.mt.mark_g x h0 hk0 hn2 hn3 h.ot hw).mono fun e w' ⟨he, hg, hf, hk⟩ => ⟨he, ⟨h.len, h.sb.imp id fun ⟨g, F, D, e, hm, hr, hL⟩ => ⟨g, F, D, e, hm.kept (hk g (by have := hm.gh; omega) (fun q e p h9 => (hL q (.inl ⟨e, p⟩)).1 h9.symm) (fun q e p h9 => (hL q (.inr ⟨e, p⟩)).1 h9.symm)) (fun q hq => hk q (by have := hr q hq; omega) (fun q' e p h9 => hq (h9 ▸ (hL q' (.inl ⟨e, p⟩)).2)) (fun q' e p h9 => hq (h9 ▸ (hL q' (.inr ⟨e, p⟩)).2))), hr, hL⟩, hg⟩, hf⟩
theorem held_js {w : World} {lo hi n c n2 n3 : Nat} {A A2 B2 : Option Addr} {C : List (List Ver)} {k0 : Int} (hn : n ≤ 1048576) (hc : cnt C ≤ 1048576) (h : JN w lo hi A n C A2 n2 B2 n3 k0) (hw : hi ≤ w.heap.size) :
    Calls Tryz.prog 14 #[.agg #[.slice A n c], .int .i64 1] w fun e w' => e = .returned (.int .i64 (1 + ((cnt C * 5 : Nat) : Int))) ∧ Below w.heap.size w w' := by
  have hlen := h.len
  rcases h.sb with h0 | ⟨g, F, D, rfl, hm, hr, hL⟩
  · subst h0
    obtain rfl : C = [] := List.eq_nil_of_length_eq_zero hlen
    exact (held_s0 1 (by omega)).mono fun e w' ⟨he, hb⟩ => ⟨by rw [he]; simp [cnt], hb⟩
  · exact held_s (by omega) (by omega) hn hc hm hw (fun q hq => by have := hr q hq; omega)
theorem held_jt {w : World} {lo hi n n2 n3 c2 d2 : Nat} {A A2 B2 : Option Addr} {C : List (List Ver)} (x : Hd) {k0 : Int} (h0 : 0 ≤ k0) (hk0 : k0 ≤ 1125899906842624) (hn2 : n2 ≤ 1048576) (hn3 : n3 ≤ 1048576) (h : JN w lo hi A n C A2 n2 B2 n3 k0) (hw : hi ≤ w.heap.size) :
    Calls Tryz.prog 15 #[.agg #[.int .i64 x.i, .int .i64 x.s, .int .i64 x.t, .int .i64 x.b, .int .i64 x.l, .int .i64 x.h, .int .i64 x.c, .slice A2 n2 c2, .slice B2 n3 d2], .int .i64 k0] w fun e w' => e = .returned (.int .i64 (k0 + (n2 * 2 : Nat) + (n3 * 2 : Nat))) ∧ Below w.heap.size w w' :=
  Go.Proofs.YthbbpfgjbidbhaaGreatDoor.mt.held_g x h0 hk0 hn2 hn3 h.mg hw
end Go.Proofs.YthbbpfgjbidbhaaGreatDoor.cml
