/- What the law on writes asks of the answers: plain mathematics; the law's sameInts and has. -/
import Derived.Test.YtajllccgfhminaaFr
import Derived.Test.YtajllccgfhminaaInts
import Derived.Test.YtajllccgfhminaaEl2
import Derived.Laws.AppendOwn
import Derived.Laws.MakeOwn
import Derived.Laws.Entries
import Derived.OwnWalk
import Derived.WalkKit
import Derived.ProofKit
import Derived.Test.YtajllccgfhminaaRx
import Derived.Test.YtajllccgfhminaaBx
import Derived.Test.YtajllccgfhminaaCl
import Derived.Test.YtajllccgfhminaaRi
import Derived.Lib.MinMax
import Derived.Deep.RegionHeld3
import Derived.Test.YtajllccgfhminaaSs
import Derived.Test.YtajllccgfhminaaAo
import Derived.Test.YtajllccgfhminaaVal
import Derived.Test.YtajllccgfhminaaFind
import Derived.Below
import Derived.Lib.Hide
import Derived.LoopTactic
import Derived.Outline
import Derived.IntWalk
import Derived.Test.YtajllccgfhminaaPw
import Derived.Maps.OwnSet
import Derived.Maps.Range
import Derived.Test.YtajllccgfhminaaSrt0
import Derived.Test.YtajllccgfhminaaCm
import Derived.Test.YtajllccgfhminaaAow
import Derived.Maps.RangeWalk
import Derived.Maps.OwnOps
import Derived.Test.YtajllccgfhminaaSf
/- A slice of integers in blocks lo <= g < hi: owned (OwI), marked (MkI), appended to; what a frame keeps of it. -/
namespace Go.Proofs.Ytajllccgfhminaa.owi
open Go.ChangeShapes Go.WideShapes Go.ChangeAt Go.RowKit
open Go.Proofs.Ytajllccgfhminaa.ints Go.Proofs.Ytajllccgfhminaa.fr
set_option linter.unusedVariables false
set_option linter.unusedSimpArgs false
abbrev mi (xs : List Int) : List Value := xs.map (Value.int .i64)
def OwI (w : World) (lo hi : Nat) (A : Option Addr) (n : Nat) (xs : List Int) : Prop :=
  xs.length = n ∧ (0 < n → ∃ g M f, A = some ⟨g, 0, none⟩ ∧ lo ≤ g ∧ g < hi ∧ w.rowIs g 3 M f ∧ n ≤ M ∧ ∀ k x, xs[k]? = some x → f k = .int .i64 x)
def MkI (w : World) (lo hi : Nat) (A : Option Addr) (n : Nat) (k0 : Int) : Prop :=
  0 < n → ∃ g M, A = some ⟨g, 0, none⟩ ∧ lo ≤ g ∧ g < hi ∧ n ≤ M ∧ IR w g M k0 n
section
variable {w w' : World} {lo hi lo' hi' B a b n : Nat} {A : Option Addr} {xs : List Int} {k0 : Int}
theorem lt_i {k : Nat} {x : Int} (h : xs[k]? = some x) : k < xs.length := by
  rcases Nat.lt_or_ge k xs.length with h' | h'
  · exact h'
  · rw [List.getElem?_eq_none h'] at h; cases h
theorem OwI.is (h : OwI w lo hi A n xs) (hB : hi ≤ B) : Is w B A n xs := ⟨h.1, fun hn => by
  obtain ⟨g, M, f, e, h1, h2, hr, hM, hf⟩ := h.2 hn
  refine ⟨g, 0, e, by omega, fun k x hx => ?_⟩
  have hk := lt_i hx
  have hl := h.1
  rw [Nat.zero_add]
  exact (hr.cell (by omega)).trans (by rw [hf k x hx])⟩
theorem OwI.vs (h : OwI w lo hi A n xs) (hB : hi ≤ B) : Is w B A n xs := h.is hB
theorem OwI.fr (h : OwI w lo hi A n xs) (hf : FR a b w w') (hd : hi ≤ a ∨ b ≤ lo) (hs : hi ≤ w.heap.size) : OwI w' lo hi A n xs := ⟨h.1, fun hn => by
  obtain ⟨g, M, f, e, h1, h2, hr, hM⟩ := h.2 hn
  exact ⟨g, M, f, e, h1, h2, hr.of_block (hf.block _ (by omega) (by omega)), hM⟩⟩
theorem MkI.fr (h : MkI w lo hi A n k0) (hf : FR a b w w') (hd : hi ≤ a ∨ b ≤ lo) (hs : hi ≤ w.heap.size) : MkI w' lo hi A n k0 := fun hn => by
  obtain ⟨g, M, e, h1, h2, hM, hk⟩ := h hn
  exact ⟨g, M, e, h1, h2, hM, hk.of_block (hf.block _ (by omega) (by omega))⟩
/-- a row that append has made -/
theorem OwI.of_own {base c : Nat} (h : w.ownsRow base 3 1 (.slice A n c) n (mi xs)) (hl : xs.length = n) (h1 : lo ≤ base) (h2 : w.heap.size ≤ hi) : OwI w lo hi A n xs := ⟨hl, fun hn => by
  rcases h.2 with ⟨_, e⟩ | ⟨g, cap, cur, e, hb, hh, hnc, hcm, hsz, hx⟩
  · omega
  · injection e with e0 e1 e2
    subst e0
    have hg : g < w.heap.size := by
      rcases Nat.lt_or_ge g w.heap.size with hlt | hge
      · exact hlt
      · rw [Array.getElem?_eq_none hge] at hh; cases hh
    refine ⟨g, cur.size, fun i => cur[i]?.getD undef, rfl, by omega, by omega, ⟨cur, hh, rfl, fun i hi => ?_⟩, by omega, fun k x hx2 => ?_⟩
    · show cur[i]? = some (cur[i]?.getD undef)
      rw [Array.getElem?_eq_getElem hi]; rfl
    · have hk := lt_i hx2
      have fa : (mi xs)[k]? = some (.int .i64 x) := by simp [mi, hx2]
      rw [← hx, List.getElem?_take, if_pos (by omega), Array.getElem?_toList] at fa
      show cur[k]?.getD undef = _
      rw [fa]; rfl⟩
end
theorem mark_i {w : World} {lo hi n c : Nat} {A : Option Addr} {xs : List Int} (hn : n ≤ 1048576) (h : OwI w lo hi A n xs) (hw : hi ≤ w.heap.size) :
    Calls Try.prog 49 #[.slice A n c, .int .i64 1] w fun e w' => e = .returned (.int .i64 (1 + ((n : Nat) : Int))) ∧ MkI w' lo hi A n 1 ∧ FR lo hi w w' := by
  rcases Nat.eq_zero_or_pos n with rfl | hp
  · exact (mark_ints0 A c 1 w).mono fun e w' ⟨he, hw⟩ => by
      subst hw
      exact ⟨by rw [he]; simp, fun h => absurd h (by omega), FR.same _⟩
  · obtain ⟨g, M, f, rfl, hl, hh, hr, hM, _⟩ := h.2 hp
    exact (mark_ints (by omega) (by omega) (by omega) hM ⟨f, hr, fun i hi => absurd hi (by omega)⟩).mono fun e w' ⟨he, hm, ho⟩ =>
      ⟨he, fun _ => ⟨g, M, rfl, hl, hh, hM, hm⟩, ⟨ho.os, ho.tape, ho.output, Nat.le_of_eq ho.size.symm, fun k _ hk => ho.block k (by omega)⟩⟩
theorem held_i {w : World} {lo hi n c : Nat} {A : Option Addr} (hn : n ≤ 1048576) (h : MkI w lo hi A n 1) (hw : hi ≤ w.heap.size) :
    Calls Try.prog 50 #[.slice A n c, .int .i64 1] w fun e w' => e = .returned (.int .i64 (1 + ((n : Nat) : Int))) ∧ Below w.heap.size w w' := by
  rcases Nat.eq_zero_or_pos n with rfl | hp
  · exact (held_ints0 A c 1 w).mono fun e w' ⟨he, hw⟩ => ⟨by rw [he]; simp, by rw [← hw]; exact Below.refl _ _⟩
  · obtain ⟨g, M, rfl, hl, hh, hM, hm⟩ := h hp
    exact (held_ints (by omega) (by omega) (by omega) hM hm).mono fun e w' ⟨he, hw⟩ => ⟨he, by rw [← hw]; exact Below.refl _ _⟩
theorem same_i {w : World} {n c c2 : Nat} {A A2 : Option Addr} {l : List Int} (hn : n ≤ 140737488355328) (h1 : Is w w.heap.size A n l) (h2 : Is w w.heap.size A2 n l) :
    Calls Try.prog 48 #[.slice A n c, .slice A2 n c2] w fun e w' => e = .returned (.bool true) ∧ Below w.heap.size w w' := same_ints hn h1 h2 (Nat.le_refl _)
theorem info_i : (Try.prog.info? 3).map (fun i => (i.zero, i.size, i.bytes)) = some (some (.int .i64 0), 1, 8) := by kernel_rfl
theorem run_append_i {P : Program} (w : World) {base : Nat} (t ty e : TypeId) (i : TypeInfo) (z : Value) (ht : P.underlying t = some (.slice e)) (hi : P.info? e = some i) (hz : i.zero = some z) (hsize : i.size = 1) (hby : i.bytes = 8) (hzs : z.cells.size = 1) {v : Value} {k : Nat} {xs : List Int} (hown : w.ownsRow base e 1 v k (mi xs)) {b c : Nat} {x : Int} (hx : w.cell? ⟨b, 0, none⟩ = some (.int .i64 x)) (hk : k + 1 ≤ 4194304) (hbase : base ≤ w.heap.size) :
    ∃ v' w', (Builtin.append_ #[t, t] ty #[v, .slice (some ⟨b, 0, none⟩) 1 c]).run P w = .ok v' w' ∧ w'.ownsRow base e 1 v' (k + 1) (mi (xs ++ [x])) ∧ w.grownBy w' v.ownBlock := by
  obtain ⟨v', w', hr, ho, hg, _⟩ := run_append_own (P := P) w base t ty e i z 1 8 ht hi hz hsize hby hzs (by decide) v k (mi xs) hown ⟨b, 0, none⟩ 1 c [.int .i64 x] rfl (by
    intro j y hj
    match j, hj with
    | 0, hj => injection hj with hj; subst hj; rw [Addr.add_lit]; exact hx) (by
    intro y hy
    rw [List.mem_singleton] at hy
    subst hy; rfl) (by unfold maxLen; omega) (by omega) hbase
  exact ⟨v', w', hr, by rw [mi, List.map_append]; exact ho, hg⟩
/-- where a slice of integers that append has made stands -/
theorem own_form {w : World} {base n : Nat} {v : Value} {xs : List Value} (h : w.ownsRow base 3 1 v n xs) : ∃ A c, v = .slice A n c := by
  rcases h.2 with ⟨e1, h0⟩ | ⟨g, cap, cur, e1, _⟩
  · subst h0; exact ⟨none, 0, e1⟩
  · exact ⟨_, _, e1⟩
end Go.Proofs.Ytajllccgfhminaa.owi
/- WriteKeys of the program and of the model: what each answers, in memory of its own. -/
namespace Go.Proofs.Ytajllccgfhminaa.wk
open Go.ChangeShapes Go.WideShapes Go.ChangeAt Go.RowKit
open Go.Proofs.Ytajllccgfhminaa.el2 Go.Proofs.Ytajllccgfhminaa.tx Go.Proofs.Ytajllccgfhminaa.seq Go.Proofs.Ytajllccgfhminaa.tv Go.Proofs.Ytajllccgfhminaa.tf Go.Proofs.Ytajllccgfhminaa.bx Go.Proofs.Ytajllccgfhminaa.owi
set_option linter.unusedVariables false
set_option linter.unusedSimpArgs false
noncomputable def wkL (x : Hd) (R S : List E2) : List Int := if txB x R S = true then S.map (·.a) else []
theorem wkL_len (x : Hd) (R S : List E2) : (wkL x R S).length ≤ S.length := by unfold wkL; split <;> simp
theorem wk_yes {x : Hd} {R S : List E2} (h : txB x R S = true) : wkL x R S = S.map (·.a) := by simp [wkL, h]
theorem wk_no {x : Hd} {R S : List E2} (h : txB x R S = false) : wkL x R S = [] := by simp [wkL, h]
theorem ks_step {S : List E2} {k : Nat} {y : E2} (hx : S[k]? = some y) : (S.take k).map (·.a) ++ [y.a] = (S.take (k + 1)).map (·.a) := by
  rw [List.take_add_one, hx]; simp
theorem ks_len {S : List E2} {k : Nat} (h : k ≤ S.length) : ((S.take k).map (·.a)).length = k := by simp [List.length_take]; omega
theorem ks_end {x : Hd} {R S : List E2} {n : Nat} (hn : S.length = n) (hk : 0 < n → txB x R S = true) : (S.take n).map (·.a) = wkL x R S := by
  rcases Nat.eq_zero_or_pos n with h0 | h0
  · subst h0
    obtain rfl : S = [] := List.eq_nil_of_length_eq_zero hn
    simp [wkL]
  · rw [wk_yes (hk h0), List.take_of_length_le (by omega)]
theorem ks_no {x : Hd} {R S : List E2} {k : Nat} (h : txB x R S = false) (hk : 0 < k → txB x R S = true) : (S.take k).map (·.a) = wkL x R S := by
  rcases Nat.eq_zero_or_pos k with h0 | h0
  · subst h0; rw [wk_no h]; simp
  · rw [hk h0] at h; cases h
theorem own_made0 (W : World) (base : Nat) (hb : base ≤ W.heap.size) : (W.alloc (.cells #[] 3)).ownsRow base 3 1 (.slice (some ⟨W.heap.size, 0, none⟩) 0 0) 0 (mi []) :=
  ⟨rfl, .inr ⟨W.heap.size, 0, #[], rfl, hb, heap_alloc_new W _, Nat.le_refl _, by unfold maxLen; omega, rfl, rfl⟩⟩
/-- what the walk goes on with -/
def WL (w : World) (x : Hd) (u v : Value) (W : World) : Prop := Below w.heap.size w W ∧ w.heap.size < W.heap.size ∧ TB W w.heap.size x u v
theorem WL.call {w W W' : World} {x : Hd} {u v : Value} (h : WL w x u v W) (hb : Below W.heap.size W W') : WL w x u v W' := ⟨h.1.trans (hb.mono h.1.size), Nat.lt_of_lt_of_le h.2.1 hb.size, h.2.2.keep h.2.1 hb⟩
theorem WL.grown {w W W' : World} {x : Hd} {u v : Value} (h : WL w x u v W) (hb : Below (w.heap.size + 1) W W') : WL w x u v W' := ⟨h.1.trans (hb.mono (by omega)), Nat.lt_of_lt_of_le h.2.1 hb.size, h.2.2.keep (Nat.lt_succ_self _) hb⟩
theorem grown_i {w w' : World} {base n : Nat} {v : Value} {xs : List Value} (ho : w.ownsRow base 3 1 v n xs) (hg : w.grownBy w' v.ownBlock) (hb : base ≤ w.heap.size) : Below base w w' :=
  (Below.refl _ _).grown hg hb fun q hq => (ho.lt q hq).1
set_option maxRecDepth 100000 in
set_option maxHeartbeats 3200000 in
theorem spec_wk {w : World} {B n c n2 c2 : Nat} {A A2 : Option Addr} {R S : List E2} (x : Hd) (hn : n ≤ 2097152) (hn2 : n2 ≤ 2097152) (h1 : Vs w B A n R) (h2 : Vs w B A2 n2 S) (hB : B ≤ w.heap.size) :
    Calls Try.prog 30 #[.agg #[.int .i64 x.i, .int .i64 x.s, .int .i64 x.t, .int .i64 x.b, .int .i64 x.l, .int .i64 x.h, .int .i64 x.c, .slice A n c, .slice A2 n2 c2]] w fun e w' => ∃ A' c', e = .returned (.slice A' (wkL x R S).length c') ∧ w'.ownsRow w.heap.size 3 1 (.slice A' (wkL x R S).length c') (wkL x R S).length (mi (wkL x R S)) ∧ Below w.heap.size w w' := by
  have H1 := Lib.hid h1
  have H2 := Lib.hid h2
  have hln := h2.1
  obtain ⟨i0, hi, hz, hs, hby⟩ := info_parts info_i
  have HI := Lib.hid hi
  have HZ := Lib.hid hz
  have HS := Lib.hid hs
  have HBY := Lib.hid hby
  clear h1 h2 hi hz hs hby
  go_enter Try.func30, Try.ntmps30
  go_wp2_with fail
  have hL : WL w x (.slice A n c) (.slice A2 n2 c2) (w.alloc (.cells #[.int .i64 x.i, .int .i64 x.s, .int .i64 x.t, .int .i64 x.b, .int .i64 x.l, .int .i64 x.h, .int .i64 x.c, .slice A n c, .slice A2 n2 c2] 27)) := ⟨new1 w _, by simp, TB.new w x A n c A2 n2 c2 27⟩
  have hs0 : (w.alloc (.cells #[.int .i64 x.i, .int .i64 x.s, .int .i64 x.t, .int .i64 x.b, .int .i64 x.l, .int .i64 x.h, .int .i64 x.c, .slice A n c, .slice A2 n2 c2] 27)).heap.size = w.heap.size + 1 := by simp
  have hE := own_made0 (w.alloc (.cells #[.int .i64 x.i, .int .i64 x.s, .int .i64 x.t, .int .i64 x.b, .int .i64 x.l, .int .i64 x.h, .int .i64 x.c, .slice A n c, .slice A2 n2 c2] 27)) (w.heap.size + 1) (by omega)
  have hL1 := hL.call (new1 _ (.cells #[] 3))
  rw [hs0] at hE
  generalize (w.alloc _).alloc _ = W1 at hE hL1 ⊢
  have L1 := Lib.hid hL1
  have E1 := Lib.hid hE
  clear hL hL1 hE hs0
  try go_wp2_with fail
  go_loopw [3, 4] (fun o i wr => ∃ (k c' : Nat) (A' : Option Addr), k ≤ n2 ∧ i = .int .i64 k ∧ o = .slice A' k c' ∧ wr.ownsRow (w.heap.size + 1) 3 1 (.slice A' k c') k (mi ((S.take k).map (·.a))) ∧ (0 < k → txB x R S = true) ∧ WL w x (.slice A n c) (.slice A2 n2 c2) wr) (fun _ i _ => n2 - (intOf i).toNat)
  case atStart => exact ⟨0, 0, _, by omega, rfl, rfl, by simpa using E1.out, fun h => absurd h (by omega), L1.out⟩
  case round =>
    obtain ⟨k, c', A', hk, rfl, rfl, hO, hP, hL⟩ := hrel
    have OW := Lib.hid hO
    have HP := Lib.hid hP
    have LW := Lib.hid hL
    have hsz := hL.2.1
    obtain ⟨t0, t1, t2, t3, t4, t5, t6, t7, t8⟩ := hL.2.2
    clear hO hP hL
    by_cases hlt : k < n2
    · have t : decide (k < n2) = true := decide_eq_true hlt
      go_wp2_with fail
      refine (Go.Proofs.Ytajllccgfhminaa.tvs.spec_tx x (by omega) (by omega) (H1.out.below (below_le LW.out.1 hB)) (H2.out.below (below_le LW.out.1 hB)) (by omega)).mono ?_
      rintro e W2 ⟨rfl, hb⟩
      have L2 := Lib.hid (LW.out.call hb)
      have O2 := Lib.hid (own_keep OW.out hb)
      clear hb t0 t1 t2 t3 t4 t5 t6 t7 t8
      rcases hrx : txB x R S with _ | _
      · have HE : Hid ((S.take k).map (·.a) = wkL x R S) := Lib.hid (ks_no hrx HP.out)
        have HM : Hid ((wkL x R S).length = k) := Lib.hid (by rw [← HE.out]; exact ks_len (by omega))
        clear hrx
        go_wp2_with fail
        go_ret
        rw [HM.out, ← HE.out]
        exact ⟨_, _, rfl, own_more O2.out (by omega), L2.out.1⟩
      have HRX := Lib.hid hrx
      clear hrx
      obtain ⟨t0, t1, t2, t3, t4, t5, t6, t7, t8⟩ := L2.out.2.2
      clear t0 t1 t2 t3 t4 t5 t6 t7
      obtain ⟨b, o, y, rfl, hbB, hx, a0, a1⟩ := (H2.out.below (below_le L2.out.1 hB)).at_ hlt
      have HX := Lib.hid hx
      have hs2 := L2.out.2.1
      have hn1 := new1 W2 (.cells #[.int .i64 y.a] 3)
      have hO3 := own_keep O2.out hn1
      have hone : (W2.alloc (.cells #[.int .i64 y.a] 3)).cell? ⟨W2.heap.size, 0, none⟩ = some (.int .i64 y.a) := World.cell?_alloc_mark W2 _ 3 _ 0
      obtain ⟨v', w4, hr, ho4, hg4⟩ := run_append_i (P := Try.prog) (W2.alloc (.cells #[.int .i64 y.a] 3)) 50 50 3 i0 _ Try.underlying50 HI.out HZ.out HS.out HBY.out rfl hO3 hone (c := 1) (by omega) (by simp; omega)
      have hb4 : Below (w.heap.size + 1) W2 w4 := (hn1.mono (by omega)).trans (grown_i hO3 hg4 (by simp; omega))
      rw [ks_step hx] at ho4
      obtain ⟨A4, c4, rfl⟩ := own_form ho4
      have O4 := Lib.hid ho4
      have L4 := Lib.hid (L2.out.grown hb4)
      clear hO3 hone hn1 ho4 hg4 hb4 hx hs2 a1
      go_wp2_with (at_builtin; refine Lib.wpList_append_run _ rfl _ _ 50 50 rfl _ _ rfl rfl _ _ hr ?_)
      go_roundw
      case rel => exact ⟨k + 1, c4, A4, by omega, by go_num, rfl, O4.out, fun _ => HRX.out, L4.out⟩
      case measure => simp [intOf]; omega
    · obtain rfl : n2 = k := by omega
      have HE : Hid ((S.take n2).map (·.a) = wkL x R S) := Lib.hid (ks_end hln HP.out)
      have HM : Hid ((wkL x R S).length = n2) := Lib.hid (by rw [← HE.out]; exact ks_len (by omega))
      clear t0 t1 t2 t3 t4 t5 t6 t7
      go_wp2_with fail
      go_ret
      rw [HM.out, ← HE.out]
      exact ⟨_, _, rfl, own_more OW.out (by omega), LW.out.1⟩
set_option maxRecDepth 100000 in
set_option maxHeartbeats 3200000 in
theorem impl_wk {w : World} {B n c n2 c2 : Nat} {A A2 : Option Addr} {R S : List E2} (x : Hd) (hn : n ≤ 2097152) (hn2 : n2 ≤ 2097152) (h1 : Vs w B A n R) (h2 : Vs w B A2 n2 S) (hB : B ≤ w.heap.size) :
    Calls Try.prog 29 #[.agg #[.int .i64 x.i, .int .i64 x.s, .int .i64 x.t, .int .i64 x.b, .int .i64 x.l, .int .i64 x.h, .int .i64 x.c, .slice A n c, .slice A2 n2 c2]] w fun e w' => ∃ A' c', e = .returned (.slice A' (wkL x R S).length c') ∧ w'.ownsRow w.heap.size 3 1 (.slice A' (wkL x R S).length c') (wkL x R S).length (mi (wkL x R S)) ∧ Below w.heap.size w w' := by
  have H1 := Lib.hid h1
  have H2 := Lib.hid h2
  have hln := h2.1
  obtain ⟨i0, hi, hz, hs, hby⟩ := info_parts info_i
  have HI := Lib.hid hi
  have HZ := Lib.hid hz
  have HS := Lib.hid hs
  have HBY := Lib.hid hby
  clear h1 h2 hi hz hs hby
  go_enter Try.func29, Try.ntmps29
  go_wp2_with fail
  have hL : WL w x (.slice A n c) (.slice A2 n2 c2) (w.alloc (.cells #[.int .i64 x.i, .int .i64 x.s, .int .i64 x.t, .int .i64 x.b, .int .i64 x.l, .int .i64 x.h, .int .i64 x.c, .slice A n c, .slice A2 n2 c2] 27)) := ⟨new1 w _, by simp, TB.new w x A n c A2 n2 c2 27⟩
  generalize w.alloc _ = W0 at hL ⊢
  have L0 := Lib.hid hL
  have hsz := hL.2.1
  obtain ⟨t0, t1, t2, t3, t4, t5, t6, t7, t8⟩ := hL.2.2
  clear hL
  try go_wp2_with fail
  refine (impl_tx x (by omega) (by omega) (H1.out.below (below_le L0.out.1 hB)) (H2.out.below (below_le L0.out.1 hB)) (by omega)).mono ?_
  rintro e W1 ⟨rfl, hb⟩
  have L1 := Lib.hid (L0.out.call hb)
  clear hb t0 t1 t2 t3 t4 t5 t6 t7 t8 hsz
  rcases hrx : txB x R S with _ | _
  · have HE : Hid (wkL x R S = []) := Lib.hid (wk_no hrx)
    clear hrx
    go_wp2_with fail
    go_ret
    rw [HE.out]
    exact ⟨_, _, rfl, World.ownsRow_nil _ _ _ _, L1.out.1⟩
  have HRX := Lib.hid hrx
  clear hrx
  obtain ⟨t0, t1, t2, t3, t4, t5, t6, t7, t8⟩ := L1.out.2.2
  have hsz := L1.out.2.1
  obtain ⟨W2, hmk, hE, hg⟩ := run_make_own (P := Try.prog) W1 (w.heap.size + 1) 50 3 i0 _ 1 Try.underlying50 HI.out HZ.out HS.out .i64 .i64 n2 (by rw [HBY.out]; omega) (by unfold maxLen; omega) (by omega)
  have hb2 : Below W1.heap.size W1 W2 := (Below.refl _ _).grown hg (Nat.le_refl _) (fun q hq => by cases hq)
  have L2 := Lib.hid (L1.out.call hb2)
  have E2 := Lib.hid hE
  have t8' := (L2.out.2.2).2.2.2.2.2.2.2.2
  clear t0 t1 t2 t3 t4 t5 t6 t7 hE hg hb2
  go_wp2_with fail
  clear hmk t8 t8'
  go_loopw [3, 16] (fun o i wr => ∃ (k c' : Nat) (A' : Option Addr), k ≤ n2 ∧ i = .int .i64 k ∧ o = .slice A' k c' ∧ wr.ownsRow (w.heap.size + 1) 3 1 (.slice A' k c') k (mi ((S.take k).map (·.a))) ∧ WL w x (.slice A n c) (.slice A2 n2 c2) wr) (fun _ i _ => n2 - (intOf i).toNat)
  case atStart => exact ⟨0, _, _, by omega, rfl, rfl, by simpa using E2.out, L2.out⟩
  case round =>
    obtain ⟨k, c', A', hk, rfl, rfl, hO, hL⟩ := hrel
    have OW := Lib.hid hO
    have LW := Lib.hid hL
    have hsz2 := hL.2.1
    clear hO hL
    by_cases hlt : k < n2
    · obtain ⟨b, o, y, rfl, hbB, hx, a0, a1⟩ := (H2.out.below (below_le LW.out.1 hB)).at_ hlt
      have hn0 := new1 wr (.cells #[.int .i64 y.a, .int .i64 y.b] 55)
      have mb := boxed wr y 55
      have hn1 := new1 (wr.alloc (.cells #[.int .i64 y.a, .int .i64 y.b] 55)) (.cells #[.int .i64 y.a] 3)
      have hO3 := own_keep (own_keep OW.out hn0) hn1
      have hone : ((wr.alloc (.cells #[.int .i64 y.a, .int .i64 y.b] 55)).alloc (.cells #[.int .i64 y.a] 3)).cell? ⟨(wr.alloc (.cells #[.int .i64 y.a, .int .i64 y.b] 55)).heap.size, 0, none⟩ = some (.int .i64 y.a) := World.cell?_alloc_mark _ _ 3 _ 0
      obtain ⟨v', w4, hr, ho4, hg4⟩ := run_append_i (P := Try.prog) ((wr.alloc (.cells #[.int .i64 y.a, .int .i64 y.b] 55)).alloc (.cells #[.int .i64 y.a] 3)) 50 50 3 i0 _ Try.underlying50 HI.out HZ.out HS.out HBY.out rfl hO3 hone (c := 1) (by omega) (by simp; omega)
      have hb4 : Below (w.heap.size + 1) wr w4 := ((hn0.trans (hn1.mono (by simp))).mono (by omega)).trans (grown_i hO3 hg4 (by simp; omega))
      rw [show (wr.alloc (.cells #[.int .i64 y.a, .int .i64 y.b] 55)).heap.size = wr.heap.size + 1 by simp] at hr
      rw [ks_step hx] at ho4
      obtain ⟨A4, c4, rfl⟩ := own_form ho4
      have O4 := Lib.hid ho4
      have L4 := Lib.hid (LW.out.grown hb4)
      clear hO3 hone hn1 ho4 hg4 hb4 hx hn0 mb
      go_wp2_with (at_builtin; refine Lib.wpList_append_run _ rfl _ _ 50 50 rfl _ _ rfl rfl _ _ hr ?_)
      go_roundw
      case rel => exact ⟨k + 1, c4, A4, by omega, by go_num, rfl, O4.out, L4.out⟩
      case measure => simp [intOf]; omega
    · obtain rfl : n2 = k := by omega
      have HE : Hid ((S.take n2).map (·.a) = wkL x R S) := Lib.hid (ks_end hln fun _ => HRX.out)
      have HM : Hid ((wkL x R S).length = n2) := Lib.hid (by rw [← HE.out]; exact ks_len (by omega))
      go_wp2_with fail
      go_ret
      rw [HM.out, ← HE.out]
      exact ⟨_, _, rfl, own_more OW.out (by omega), LW.out.1⟩
end Go.Proofs.Ytajllccgfhminaa.wk
/- RefreshLow of the program and of the model: what each answers; nothing that was there is written. -/
namespace Go.Proofs.Ytajllccgfhminaa.rl
open Go.ChangeShapes Go.WideShapes Go.ChangeAt Go.RowKit
open Go.Proofs.Ytajllccgfhminaa.el2 Go.Proofs.Ytajllccgfhminaa.tx Go.Proofs.Ytajllccgfhminaa.seq Go.Proofs.Ytajllccgfhminaa.tv Go.Proofs.Ytajllccgfhminaa.tf Go.Proofs.Ytajllccgfhminaa.rx Go.Proofs.Ytajllccgfhminaa.ri
open Go.Proofs.Ytajllccgfhminaa.vers (new2)
open Go.Proofs.Ytajllccgfhminaa.sl (Ver)
open Go.Proofs.Ytajllccgfhminaa.st (Rs)
open Go.Proofs.Ytajllccgfhminaa.val (stB)
set_option linter.unusedVariables false
set_option linter.unusedSimpArgs false
/-- both are valid -/
noncomputable def bothB (C : List (List Ver)) (x : Hd) (R S : List E2) : Bool := stB C && txB x R S
theorem no_st {C : List (List Ver)} {x : Hd} {R S : List E2} (h : stB C = false) : bothB C x R S = false := by simp [bothB, h]
theorem no_tx {C : List (List Ver)} {x : Hd} {R S : List E2} (h : txB x R S = false) : bothB C x R S = false := by simp [bothB, h]
theorem both_yes {C : List (List Ver)} {x : Hd} {R S : List E2} (hs : stB C = true) (ht : txB x R S = true) : bothB C x R S = true := by simp [bothB, hs, ht]
theorem both_parts {C : List (List Ver)} {x : Hd} {R S : List E2} (h : bothB C x R S = true) : stB C = true ∧ txB x R S = true := by simpa [bothB] using h
theorem tx_wr {x : Hd} {R S : List E2} (h : txB x R S = true) : wrB S = true := by simp only [txB, Bool.and_eq_true] at h; exact h.2
theorem okW_key {m : E2} (h : okW m = true) : 0 ≤ m.a ∧ m.a ≤ 5 := by
  simp only [okW, vers.In, Bool.and_eq_true, decide_eq_true_eq] at h
  exact h.1
theorem wkey_of {x : Hd} {R S : List E2} {k : Nat} {m : E2} (h : txB x R S = true) (hx : S[k]? = some m) : 0 ≤ m.a ∧ m.a ≤ 5 := okW_key ((sq_of (tx_wr h)).1 k m hx)
/-- the latest version of a write's key -/
noncomputable def latOf (C : List (List Ver)) (m : E2) : Ver := Go.Proofs.Ytajllccgfhminaa.find.lastV (chOf C m.a)
theorem lat_at {C : List (List Ver)} {m : E2} {l : List Ver} (h : C[m.a.toNat]? = some l) : Go.Proofs.Ytajllccgfhminaa.find.lastV l = latOf C m := by unfold latOf; rw [ch_at h]
theorem fld3 (a b c d e : Value) (W : World) : (Instr.field 29 (.agg #[a, b, c, d, e]) 3).run Try.prog W = .ok d W := by
  have hu := Try.underlying29
  simp [Instr.field, run_underlying hu, go_sem, asAgg]
theorem fld2 (a b c d e : Value) (W : World) : (Instr.field 29 (.agg #[a, b, c, d, e]) 2).run Try.prog W = .ok c W := by
  have hu := Try.underlying29
  simp [Instr.field, run_underlying hu, go_sem, asAgg]
theorem ret_i {a b : Int} (h : a = b) : Ending.returned (.int .i64 a) = .returned (.int .i64 b) := by rw [h]
theorem val_i {a b : Int} (h : a = b) : Value.int .i64 a = .int .i64 b := by rw [h]
/-- the greatest creation among the first k reads -/
def loR (R : List E2) (k : Nat) : Int := (R.take k).foldl (fun a m => max a m.b) 0
/-- .. and of the readers of the latest versions of the first k written keys -/
noncomputable def loW (C : List (List Ver)) (R S : List E2) (k : Nat) : Int := (S.take k).foldl (fun a m => max a (latOf C m).d) (loR R R.length)
noncomputable def rlI (C : List (List Ver)) (x : Hd) (R S : List E2) : Int := if bothB C x R S = true then loW C R S S.length else 0
theorem loR_step {R : List E2} {k : Nat} {y : E2} (hx : R[k]? = some y) : loR R (k + 1) = max (loR R k) y.b := by
  unfold loR
  rw [List.take_add_one, hx]
  simp [List.foldl_append]
theorem loW_step {C : List (List Ver)} {R S : List E2} {k : Nat} {y : E2} {z : Ver} (hx : S[k]? = some y) (hz : latOf C y = z) : loW C R S (k + 1) = max (loW C R S k) z.d := by
  unfold loW
  rw [List.take_add_one, hx, ← hz]
  simp [List.foldl_append]
theorem loW_zero {C : List (List Ver)} {R S : List E2} {n : Nat} (hn : R.length = n) : loR R n = loW C R S 0 := by subst hn; simp [loW]
theorem rl_no {C : List (List Ver)} {x : Hd} {R S : List E2} (h : bothB C x R S = false) : (0 : Int) = rlI C x R S := by simp [rlI, h]
theorem rl_yes {C : List (List Ver)} {x : Hd} {R S : List E2} {n : Nat} (hn : S.length = n) (h : bothB C x R S = true) : loW C R S n = rlI C x R S := by subst hn; simp [rlI, h]
set_option maxRecDepth 100000 in
set_option maxHeartbeats 3200000 in
theorem spec_rl {w : World} {B n c n2 c2 N cN : Nat} {A A2 D : Option Addr} {R S : List E2} {C : List (List Ver)} (x : Hd) (hn : n ≤ 2097152) (hn2 : n2 ≤ 2097152) (hN : N ≤ 2097152) (h1 : Vs w B A n R) (h2 : Vs w B A2 n2 S) (h3 : Rs w B D N C) (hB : B ≤ w.heap.size) :
    Calls Try.prog 27 #[.agg #[.slice D N cN], .agg #[.int .i64 x.i, .int .i64 x.s, .int .i64 x.t, .int .i64 x.b, .int .i64 x.l, .int .i64 x.h, .int .i64 x.c, .slice A n c, .slice A2 n2 c2]] w fun e w' => e = .returned (.int .i64 (rlI C x R S)) ∧ Below w.heap.size w w' := by
  have H1 := Lib.hid h1
  have H2 := Lib.hid h2
  have H3 := Lib.hid h3
  have hln := h1.1
  have hln2 := h2.1
  clear h1 h2 h3
  go_enter Try.func27, Try.ntmps27
  go_wp2_with fail
  have hL := LS.mk2 w (.slice D N cN) 40 27 x A n c A2 n2 c2
  generalize ((w.alloc _).alloc _) = W0 at hL ⊢
  have L0 := Lib.hid hL
  have c0 := hL.st
  clear hL
  go_wp2_with fail
  refine (val.spec_store (by omega) (H3.out.below (below_le L0.out.bel hB)) (by have := L0.out.size; omega)).mono ?_
  rintro e W1 ⟨rfl, hb⟩
  have L1 := Lib.hid (L0.out.call hb)
  clear hb c0
  rcases hst : stB C with _ | _
  · have HE := Lib.hid (no_st (x := x) (R := R) (S := S) hst)
    clear hst
    go_wp2_with fail
    go_ret
    exact ⟨ret_i (rl_no HE.out), L1.out.bel⟩
  obtain ⟨t0, t1, t2, t3, t4, t5, t6, t7, t8⟩ := L1.out.tb
  have HST := Lib.hid hst
  clear hst
  go_wp2_with fail
  refine (tvs.spec_tx x (by omega) (by omega) (H1.out.below (below_le L1.out.bel hB)) (H2.out.below (below_le L1.out.bel hB)) (by have := L1.out.size; omega)).mono ?_
  rintro e W2 ⟨rfl, hb⟩
  have L2 := Lib.hid (L1.out.call hb)
  clear hb t0 t1 t2 t3 t4 t5 t6 t7 t8
  rcases htx : txB x R S with _ | _
  · have HE := Lib.hid (no_tx (C := C) htx)
    clear htx
    go_wp2_with fail
    go_ret
    exact ⟨ret_i (rl_no HE.out), L2.out.bel⟩
  have HTX := Lib.hid htx
  clear htx
  go_wp2_with fail
  go_loopw [5, 6] (fun a i wr => ∃ k : Nat, k ≤ n ∧ i = .int .i64 k ∧ a = .int .i64 (loR R k) ∧ LS w (.slice D N cN) x (.slice A n c) (.slice A2 n2 c2) wr) (fun _ i _ => n - (intOf i).toNat)
  case atStart => exact ⟨0, by omega, rfl, rfl, L2.out⟩
  case round =>
    obtain ⟨k, hk, rfl, rfl, hL⟩ := hrel
    have LW := Lib.hid hL
    obtain ⟨t0, t1, t2, t3, t4, t5, t6, t7, t8⟩ := hL.tb
    clear hL t0 t1 t2 t3 t4 t5 t6 t8
    obtain ⟨z, hz⟩ : ∃ z, loR R k = z := ⟨_, rfl⟩
    rw [hz]
    have HZ := Lib.hid hz
    clear hz
    by_cases hlt : k < n
    · obtain ⟨b, o, y, rfl, hbB, hx, a0, a1⟩ := (H1.out.below (below_le LW.out.bel hB)).at_ hlt
      have HX := Lib.hid hx
      clear hx
      go_wp2_with fail
      go_roundw
      case rel => exact ⟨k + 1, by omega, by go_num, val_i (by rw [loR_step HX.out, HZ.out]), LW.out⟩
      case measure => simp [intOf]; omega
    · obtain rfl : n = k := by omega
      have HZ2 : Hid (loW C R S 0 = z) := Lib.hid (by rw [← loW_zero hln, HZ.out])
      go_wp2_with fail
      clear t7
      go_loopw [5, 7] (fun a i wr => ∃ k : Nat, k ≤ n2 ∧ i = .int .i64 k ∧ a = .int .i64 (loW C R S k) ∧ LS w (.slice D N cN) x (.slice A n c) (.slice A2 n2 c2) wr) (fun _ i _ => n2 - (intOf i).toNat)
      case atStart => exact ⟨0, by omega, rfl, val_i HZ2.out.symm, LW.out⟩
      case round =>
        clear LW HZ HZ2
        obtain ⟨k, hk, rfl, rfl, hL⟩ := hrel
        have LW := Lib.hid hL
        have c0 := hL.st
        obtain ⟨t0, t1, t2, t3, t4, t5, t6, t7, t8⟩ := hL.tb
        clear hL t0 t1 t2 t3 t4 t5 t6 t7
        obtain ⟨v, hv⟩ : ∃ z, loW C R S k = z := ⟨_, rfl⟩
        rw [hv]
        have HVV := Lib.hid hv
        clear hv
        by_cases hlt : k < n2
        · obtain ⟨b, o, y, rfl, hbB, hx, a0, a1⟩ := (H2.out.below (below_le LW.out.bel hB)).at_ hlt
          have HX := Lib.hid hx
          clear hx
          have h6 := val.st_six HST.out
          rw [H3.out.1] at h6
          obtain ⟨s1, s2⟩ := wkey_of HTX.out HX.out
          have s3 : y.a < (N : Int) := by omega
          have s4 : y.a.toNat < N := by omega
          clear h6
          obtain ⟨b2, o2, l, A9, n9, c9, rfl, hb2, hl, d0, hn9, hv⟩ := (H3.out.below (below_le LW.out.bel hB)).at_ s4
          have HL := Lib.hid hl
          have HV := Lib.hid hv
          clear hl hv
          obtain ⟨z, hz⟩ : ∃ z, latOf C y = z := ⟨_, rfl⟩
          have HZ := Lib.hid hz
          have HLV : Hid (Go.Proofs.Ytajllccgfhminaa.find.lastV l = z) := Lib.hid (by rw [lat_at HL.out, hz])
          clear hz
          go_wp2_with fail
          have hbk0 : Below wr.heap.size wr wr.drew := (Below.refl _ _).drew
          have hsz := LW.out.size
          have hlb : b < wr.heap.size := by omega
          have hlb2 : b2 < wr.heap.size := by omega
          have C0 := Lib.hid c0
          have T8 := Lib.hid t8
          have A0 := Lib.hid a0
          have D0 := Lib.hid d0
          clear a1
          go_region_held3 (fun w' => w'.cell? ⟨w.heap.size, 0, none⟩ = some (.slice (some ⟨b2, o2, none⟩) N cN) ∧ w'.cell? ⟨w.heap.size + 1, 8, none⟩ = some (.slice (some ⟨b, o, none⟩) n2 c2) ∧ w'.cell? ⟨b, o + k * 2, none⟩ = some (.int .i64 y.a) ∧ w'.cell? ⟨b2, o2 + y.a.toNat, none⟩ = some (.slice A9 n9 c9)) (go_keep) (first | (go_at_call 33; (with_reducible refine (Go.Proofs.Ytajllccgfhminaa.find.latest_spec HLV.out hn9 ((HV.out.below (below_le hbk0 (Nat.le_trans hB LW.out.bel.size))).more (show B ≤ wr.heap.size by omega)) (Nat.le_refl _)).mono ?_); rintro e W3 ⟨he, hb'⟩; subst he; have hf := fld3 (.int .i64 z.a) (.int .i64 z.b) (.int .i64 z.c) (.int .i64 z.d) (.int .i64 z.e); have hbk1 := hbk0.trans (hb'.mono hbk0.size); have c1 := (hbk1.cell (p := ⟨w.heap.size, 0, none⟩) (by simp only; omega)).trans C0.out; have e8 := (hbk1.cell (p := ⟨w.heap.size + 1, 8, none⟩) (by simp only; omega)).trans T8.out; have e0 := (hbk1.cell (p := ⟨b, o + k * 2, none⟩) hlb).trans A0.out; have e9 := (hbk1.cell (p := ⟨b2, o2 + y.a.toNat, none⟩) hlb2).trans D0.out))
          have L3 := Lib.hid (LW.out.call hbk1)
          clear hf c1 e8 e0 e9 hbk0 hbk1 hb' c0 t8 a0 d0
          go_wp2_with fail
          go_roundw
          case rel => exact ⟨k + 1, by omega, by go_num, val_i (by rw [loW_step HX.out HZ.out, HVV.out]), L3.out⟩
          case measure => simp [intOf]; omega
        · obtain rfl : n2 = k := by omega
          go_wp2_with fail
          go_ret
          exact ⟨ret_i (by rw [← HVV.out]; exact rl_yes hln2 (both_yes HST.out HTX.out)), LW.out.bel⟩
set_option maxRecDepth 100000 in
set_option maxHeartbeats 3200000 in
theorem impl_rl {w : World} {B n c n2 c2 N cN : Nat} {A A2 D : Option Addr} {R S : List E2} {C : List (List Ver)} (x : Hd) (hn : n ≤ 2097152) (hn2 : n2 ≤ 2097152) (hN : N ≤ 2097152) (h1 : Vs w B A n R) (h2 : Vs w B A2 n2 S) (h3 : Rs w B D N C) (hB : B ≤ w.heap.size) :
    Calls Try.prog 26 #[.agg #[.slice D N cN], .agg #[.int .i64 x.i, .int .i64 x.s, .int .i64 x.t, .int .i64 x.b, .int .i64 x.l, .int .i64 x.h, .int .i64 x.c, .slice A n c, .slice A2 n2 c2]] w fun e w' => e = .returned (.int .i64 (rlI C x R S)) ∧ Below w.heap.size w w' := by
  have H1 := Lib.hid h1
  have H2 := Lib.hid h2
  have H3 := Lib.hid h3
  have hln := h1.1
  have hln2 := h2.1
  clear h1 h2 h3
  go_enter Try.func26, Try.ntmps26
  go_wp2_with fail
  have hL := LS.mk2 w (.slice D N cN) 40 27 x A n c A2 n2 c2
  generalize ((w.alloc _).alloc _) = W0 at hL ⊢
  have L0 := Lib.hid hL
  have c0 := hL.st
  clear hL
  go_wp2_with fail
  refine (val.impl_store (by omega) (H3.out.below (below_le L0.out.bel hB)) (by have := L0.out.size; omega)).mono ?_
  rintro e W1 ⟨rfl, hb⟩
  have L1 := Lib.hid (L0.out.call hb)
  clear hb c0
  rcases hst : stB C with _ | _
  · have HE := Lib.hid (no_st (x := x) (R := R) (S := S) hst)
    clear hst
    go_wp2_with fail
    go_ret
    exact ⟨ret_i (rl_no HE.out), L1.out.bel⟩
  obtain ⟨t0, t1, t2, t3, t4, t5, t6, t7, t8⟩ := L1.out.tb
  have HST := Lib.hid hst
  clear hst
  go_wp2_with fail
  refine (impl_tx x (by omega) (by omega) (H1.out.below (below_le L1.out.bel hB)) (H2.out.below (below_le L1.out.bel hB)) (by have := L1.out.size; omega)).mono ?_
  rintro e W2 ⟨rfl, hb⟩
  have L2 := Lib.hid (L1.out.call hb)
  clear hb t0 t1 t2 t3 t4 t5 t6 t7 t8
  rcases htx : txB x R S with _ | _
  · have HE := Lib.hid (no_tx (C := C) htx)
    clear htx
    go_wp2_with fail
    go_ret
    exact ⟨ret_i (rl_no HE.out), L2.out.bel⟩
  have HTX := Lib.hid htx
  clear htx
  obtain ⟨t0, t1, t2, t3, t4, t5, t6, t7, t8⟩ := L2.out.tb
  clear t0 t1 t2 t3 t4 t5 t6 t8
  go_wp2_with fail
  clear t7
  go_loopw [5, 7, 21] (fun a _ i wr => ∃ k : Nat, k ≤ n ∧ i = .int .i64 k ∧ a = .int .i64 (loR R k) ∧ LS w (.slice D N cN) x (.slice A n c) (.slice A2 n2 c2) wr) (fun _ _ i _ => n - (intOf i).toNat)
  case atStart => exact ⟨0, by omega, rfl, rfl, L2.out⟩
  case round =>
    obtain ⟨k, hk, rfl, rfl, hL⟩ := hrel
    have LW := Lib.hid hL
    clear hL
    obtain ⟨z, hz⟩ : ∃ z, loR R k = z := ⟨_, rfl⟩
    rw [hz]
    have HZ := Lib.hid hz
    clear hz
    by_cases hlt : k < n
    · obtain ⟨b, o, y, rfl, hbB, hx, a0, a1⟩ := (H1.out.below (below_le LW.out.bel hB)).at_ hlt
      have HX := Lib.hid hx
      have LX := Lib.hid (LW.out.call (new1 wr (.cells #[.int .i64 y.a, .int .i64 y.b] 37)))
      clear hx
      go_wp2_with fail
      go_roundw
      case rel => exact ⟨k + 1, by omega, by go_num, val_i (by rw [loR_step HX.out, HZ.out]), LX.out⟩
      case measure => simp [intOf]; omega
    · obtain rfl : n = k := by omega
      have HZ2 : Hid (loW C R S 0 = z) := Lib.hid (by rw [← loW_zero hln, HZ.out])
      obtain ⟨t0, t1, t2, t3, t4, t5, t6, t7, t8⟩ := LW.out.tb
      clear t0 t1 t2 t3 t4 t5 t6 t7
      go_wp2_with fail
      clear t8
      go_loopw [5, 9, 33] (fun a _ i wr => ∃ k : Nat, k ≤ n2 ∧ i = .int .i64 k ∧ a = .int .i64 (loW C R S k) ∧ LS w (.slice D N cN) x (.slice A n c) (.slice A2 n2 c2) wr) (fun _ _ i _ => n2 - (intOf i).toNat)
      case atStart => exact ⟨0, by omega, rfl, val_i HZ2.out.symm, LW.out⟩
      case round =>
        clear LW HZ HZ2
        obtain ⟨k, hk, rfl, rfl, hL⟩ := hrel
        have LW := Lib.hid hL
        clear hL
        obtain ⟨v, hv⟩ : ∃ z, loW C R S k = z := ⟨_, rfl⟩
        rw [hv]
        have HVV := Lib.hid hv
        clear hv
        by_cases hlt : k < n2
        · obtain ⟨b, o, y, rfl, hbB, hx, a0, a1⟩ := (H2.out.below (below_le LW.out.bel hB)).at_ hlt
          have HX := Lib.hid hx
          clear hx
          have hb := new1 wr (.cells #[.int .i64 y.a, .int .i64 y.b] 55)
          have mb := boxed wr y 55
          have LX := Lib.hid (LW.out.call hb)
          have c0 := LX.out.st
          have hsz := LW.out.size
          have h6 := val.st_six HST.out
          rw [H3.out.1] at h6
          obtain ⟨s1, s2⟩ := wkey_of HTX.out HX.out
          have s3 : y.a < (N : Int) := by omega
          have s4 : y.a.toNat < N := by omega
          clear h6
          obtain ⟨b2, o2, l, A9, n9, c9, rfl, hb2, hl, d0, hn9, hv⟩ := (H3.out.below (below_le LX.out.bel hB)).at_ s4
          have HL := Lib.hid hl
          have HV := Lib.hid hv
          clear hl hv
          obtain ⟨z, hz⟩ : ∃ z, latOf C y = z := ⟨_, rfl⟩
          have HZ := Lib.hid hz
          have HLV : Hid (Go.Proofs.Ytajllccgfhminaa.find.lastV l = z) := Lib.hid (by rw [lat_at HL.out, hz])
          clear hz
          clear mb
          go_wp2_with fail
          generalize hW : wr.alloc _ = W2 at c0 d0 hb LX HV ⊢
          clear hW a0 a1
          refine (Go.Proofs.Ytajllccgfhminaa.find.latest_impl HLV.out hn9 (HV.out.more (show B ≤ W2.heap.size by have := hb.size; omega)) (Nat.le_refl _)).mono ?_
          rintro e W3 ⟨rfl, hb3⟩
          have L3 := Lib.hid (LX.out.call hb3)
          have hf := fld3 (.int .i64 z.a) (.int .i64 z.b) (.int .i64 z.c) (.int .i64 z.d) (.int .i64 z.e) W3
          clear c0 d0 hb hb3
          go_wp2_with fail
          go_roundw
          case rel => exact ⟨k + 1, by omega, by go_num, val_i (by rw [loW_step HX.out HZ.out, HVV.out]), L3.out⟩
          case measure => simp [intOf]; omega
        · obtain rfl : n2 = k := by omega
          go_wp2_with fail
          go_ret
          exact ⟨ret_i (by rw [← HVV.out]; exact rl_yes hln2 (both_yes HST.out HTX.out)), LW.out.bel⟩
end Go.Proofs.Ytajllccgfhminaa.rl
/- OverwrittenVersions of the program and of the model: what each answers, in memory of its own. -/
namespace Go.Proofs.Ytajllccgfhminaa.ov
open Go.ChangeShapes Go.WideShapes Go.ChangeAt Go.RowKit
open Go.Proofs.Ytajllccgfhminaa.el2 Go.Proofs.Ytajllccgfhminaa.tx Go.Proofs.Ytajllccgfhminaa.seq Go.Proofs.Ytajllccgfhminaa.tv Go.Proofs.Ytajllccgfhminaa.tf Go.Proofs.Ytajllccgfhminaa.rx Go.Proofs.Ytajllccgfhminaa.ri Go.Proofs.Ytajllccgfhminaa.ap Go.Proofs.Ytajllccgfhminaa.bx Go.Proofs.Ytajllccgfhminaa.cl Go.Proofs.Ytajllccgfhminaa.rl Go.Proofs.Ytajllccgfhminaa.ss Go.Proofs.Ytajllccgfhminaa.ao
open Go.Proofs.Ytajllccgfhminaa.vers (new2)
open Go.Proofs.Ytajllccgfhminaa.sl (Ver)
open Go.Proofs.Ytajllccgfhminaa.st (Rs)
open Go.Proofs.Ytajllccgfhminaa.val (stB)
set_option linter.unusedVariables false
set_option linter.unusedSimpArgs false
/-- the mark of a write: its key, the creation of the key's latest version -/
noncomputable def ovM (C : List (List Ver)) (m : E2) : E2 := ⟨m.a, (latOf C m).c⟩
noncomputable def ovK (C : List (List Ver)) (S : List E2) (k : Nat) : List E2 := (S.take k).map (ovM C)
noncomputable def ovL (C : List (List Ver)) (x : Hd) (R S : List E2) : List E2 := if bothB C x R S = true then S.map (ovM C) else []
theorem ovL_len (C : List (List Ver)) (x : Hd) (R S : List E2) : (ovL C x R S).length ≤ S.length := by unfold ovL; split <;> simp
theorem ovK_len {C : List (List Ver)} {S : List E2} {k : Nat} (h : k ≤ S.length) : (ovK C S k).length = k := by simp [ovK, List.length_take]; omega
theorem ovK_step {C : List (List Ver)} {S : List E2} {k : Nat} {y : E2} {z : Ver} (hx : S[k]? = some y) (hz : latOf C y = z) : ovK C S k ++ [⟨y.a, z.c⟩] = ovK C S (k + 1) := by
  unfold ovK
  rw [List.take_add_one, hx, ← hz]
  simp [ovM]
theorem ov_end {C : List (List Ver)} {x : Hd} {R S : List E2} {n : Nat} (hn : S.length = n) (hk : 0 < n → bothB C x R S = true) : ovK C S n = ovL C x R S := by
  rcases Nat.eq_zero_or_pos n with h0 | h0
  · subst h0
    obtain rfl : S = [] := List.eq_nil_of_length_eq_zero hn
    simp [ovL, ovK]
  · unfold ovK ovL
    rw [if_pos (hk h0), List.take_of_length_le (by omega)]
theorem ov_no {C : List (List Ver)} {x : Hd} {R S : List E2} {k : Nat} (h : bothB C x R S = false) (hk : 0 < k → bothB C x R S = true) : ovK C S k = ovL C x R S := by
  rcases Nat.eq_zero_or_pos k with h0 | h0
  · subst h0; simp [ovL, ovK, h]
  · rw [hk h0] at h; cases h
theorem ovL_no {C : List (List Ver)} {x : Hd} {R S : List E2} (h : bothB C x R S = false) : ovL C x R S = [] := by simp [ovL, h]
set_option maxRecDepth 100000 in
set_option maxHeartbeats 3200000 in
theorem spec_ov {w : World} {B n c n2 c2 N cN : Nat} {A A2 D : Option Addr} {R S : List E2} {C : List (List Ver)} (x : Hd) (hn : n ≤ 2097152) (hn2 : n2 ≤ 2097152) (hN : N ≤ 2097152) (h1 : Vs w B A n R) (h2 : Vs w B A2 n2 S) (h3 : Rs w B D N C) (hB : B ≤ w.heap.size) :
    Calls Try.prog 44 #[.agg #[.slice D N cN], .agg #[.int .i64 x.i, .int .i64 x.s, .int .i64 x.t, .int .i64 x.b, .int .i64 x.l, .int .i64 x.h, .int .i64 x.c, .slice A n c, .slice A2 n2 c2]] w fun e w' => ∃ A' c', e = .returned (.slice A' (ovL C x R S).length c') ∧ w'.ownsRow w.heap.size 37 2 (.slice A' (ovL C x R S).length c') (ovL C x R S).length (flat (ovL C x R S)) ∧ Below w.heap.size w w' := by
  have H1 := Lib.hid h1
  have H2 := Lib.hid h2
  have H3 := Lib.hid h3
  have hln := h1.1
  have hln2 := h2.1
  clear h1 h2 h3
  go_enter Try.func44, Try.ntmps44
  go_wp2_with fail
  have hL := LS.mk2 w (.slice D N cN) 40 27 x A n c A2 n2 c2
  have hs0 : ((w.alloc (.cells #[.slice D N cN] 40)).alloc (.cells #[.int .i64 x.i, .int .i64 x.s, .int .i64 x.t, .int .i64 x.b, .int .i64 x.l, .int .i64 x.h, .int .i64 x.c, .slice A n c, .slice A2 n2 c2] 27)).heap.size = w.heap.size + 1 + 1 := by simp
  generalize ((w.alloc _).alloc _) = W0 at hL hs0 ⊢
  have hE := own_empty W0 37 (w.heap.size + 1 + 1) (by omega)
  have hL1 := hL.call (new1 W0 (.cells #[] 37))
  rw [hs0] at hE
  generalize W0.alloc _ = W1 at hE hL1 ⊢
  have L1 := Lib.hid hL1
  have E1 := Lib.hid hE
  clear hL hL1 hE hs0
  try go_wp2_with fail
  go_loopw [5, 6, 7] (fun o i _ wr => ∃ (k c' : Nat) (A' : Option Addr), k ≤ n2 ∧ i = .int .i64 k ∧ o = .slice A' k c' ∧ wr.ownsRow (w.heap.size + 1 + 1) 37 2 (.slice A' k c') k (flat (ovK C S k)) ∧ (0 < k → bothB C x R S = true) ∧ LS w (.slice D N cN) x (.slice A n c) (.slice A2 n2 c2) wr) (fun _ i _ _ => n2 - (intOf i).toNat)
  case atStart => exact ⟨0, 0, _, by omega, rfl, rfl, by simpa [ovK] using E1.out, fun h => absurd h (by omega), L1.out⟩
  case round =>
    obtain ⟨k, c', A', hk, rfl, rfl, hO, hP, hL⟩ := hrel
    have OW := Lib.hid hO
    have HP := Lib.hid hP
    have LW := Lib.hid hL
    have c0 := hL.st
    obtain ⟨t0, t1, t2, t3, t4, t5, t6, t7, t8⟩ := hL.tb
    clear hO hP hL t0 t1 t2 t3 t4 t5 t6 t7
    by_cases hlt : k < n2
    · have t : decide (k < n2) = true := decide_eq_true hlt
      go_wp2_with fail
      refine (val.spec_store (by omega) (H3.out.below (below_le LW.out.bel hB)) (by have := LW.out.size; omega)).mono ?_
      rintro e W2 ⟨rfl, hb⟩
      have L2 := Lib.hid (LW.out.call hb)
      have O2 := Lib.hid (own_keep OW.out hb)
      clear hb c0 t8
      rcases hst : stB C with _ | _
      · have HE : Hid (ovK C S k = ovL C x R S) := Lib.hid (ov_no (no_st hst) HP.out)
        have HM : Hid ((ovL C x R S).length = k) := Lib.hid (by rw [← HE.out]; exact ovK_len (by omega))
        clear hst
        go_wp2_with fail
        go_ret
        rw [HM.out, ← HE.out]
        exact ⟨_, _, rfl, own_more O2.out (by omega), L2.out.bel⟩
      have HST := Lib.hid hst
      obtain ⟨t0, t1, t2, t3, t4, t5, t6, t7, t8⟩ := L2.out.tb
      clear hst
      go_wp2_with fail
      refine (tvs.spec_tx x (by omega) (by omega) (H1.out.below (below_le L2.out.bel hB)) (H2.out.below (below_le L2.out.bel hB)) (by have := L2.out.size; omega)).mono ?_
      rintro e W3 ⟨rfl, hb⟩
      have L3 := Lib.hid (L2.out.call hb)
      have O3 := Lib.hid (own_keep O2.out hb)
      clear hb t0 t1 t2 t3 t4 t5 t6 t7 t8
      rcases htx : txB x R S with _ | _
      · have HE : Hid (ovK C S k = ovL C x R S) := Lib.hid (ov_no (no_tx htx) HP.out)
        have HM : Hid ((ovL C x R S).length = k) := Lib.hid (by rw [← HE.out]; exact ovK_len (by omega))
        clear htx
        go_wp2_with fail
        go_ret
        rw [HM.out, ← HE.out]
        exact ⟨_, _, rfl, own_more O3.out (by omega), L3.out.bel⟩
      have HTX := Lib.hid htx
      clear htx
      have c0 := L3.out.st
      obtain ⟨t0, t1, t2, t3, t4, t5, t6, t7, t8⟩ := L3.out.tb
      clear t0 t1 t2 t3 t4 t5 t6 t7
      obtain ⟨b, o, y, rfl, hbB, hx, a0, a1⟩ := (H2.out.below (below_le L3.out.bel hB)).at_ hlt
      have HX := Lib.hid hx
      clear hx a1
      have h6 := val.st_six HST.out
      rw [H3.out.1] at h6
      obtain ⟨s1, s2⟩ := wkey_of HTX.out HX.out
      have s3 : y.a < (N : Int) := by omega
      have s4 : y.a.toNat < N := by omega
      clear h6
      obtain ⟨b2, o2, l, A9, n9, c9, rfl, hb2, hl, d0, hn9, hv⟩ := (H3.out.below (below_le L3.out.bel hB)).at_ s4
      have HL := Lib.hid hl
      have HV := Lib.hid hv
      clear hl hv
      obtain ⟨z, hz⟩ : ∃ z, latOf C y = z := ⟨_, rfl⟩
      have HZ := Lib.hid hz
      have HLV : Hid (Go.Proofs.Ytajllccgfhminaa.find.lastV l = z) := Lib.hid (by rw [lat_at HL.out, hz])
      clear hz
      go_wp2_with fail
      refine (Go.Proofs.Ytajllccgfhminaa.find.latest_spec HLV.out hn9 (HV.out.more (show B ≤ W3.heap.size by have := L3.out.bel.size; omega)) (Nat.le_refl _)).mono ?_
      rintro e W4 ⟨rfl, hb⟩
      have L4 := Lib.hid (L3.out.call hb)
      have O4 := Lib.hid (own_keep O3.out hb)
      have hf := fld2 (.int .i64 z.a) (.int .i64 z.b) (.int .i64 z.c) (.int .i64 z.d) (.int .i64 z.e) W4
      clear hb c0 t8 a0 d0
      have hs4 := L4.out.size
      have hn4 := new1 W4 (.cells #[.int .i64 y.a, .int .i64 z.c] 37)
      obtain ⟨A5, c5, W5, hr, ho5, _, hb5⟩ := app_own (c := 1) _ (own_keep O4.out hn4) (one_vs (boxed W4 ⟨y.a, z.c⟩ 37)) (by omega) (by simp; omega)
      have hb6 : Below (w.heap.size + 1 + 1) W4 W5 := (hn4.mono (by omega)).trans hb5
      rw [ovK_step HX.out HZ.out] at ho5
      have O5 := Lib.hid ho5
      have L5 := Lib.hid (ls_grown L4.out hb6)
      clear hn4 ho5 hb5 hb6
      go_wp2_with (at_builtin; refine Lib.wpList_append_run _ rfl _ _ 24 24 rfl _ _ rfl rfl _ _ hr ?_)
      go_roundw
      case rel => exact ⟨k + 1, c5, A5, by omega, by go_num, rfl, O5.out, fun _ => both_yes HST.out HTX.out, L5.out⟩
      case measure => simp [intOf]; omega
    · obtain rfl : n2 = k := by omega
      have HE : Hid (ovK C S n2 = ovL C x R S) := Lib.hid (ov_end hln2 HP.out)
      have HM : Hid ((ovL C x R S).length = n2) := Lib.hid (by rw [← HE.out]; exact ovK_len (by omega))
      go_wp2_with fail
      go_ret
      rw [HM.out, ← HE.out]
      exact ⟨_, _, rfl, own_more OW.out (by omega), LW.out.bel⟩
set_option maxRecDepth 100000 in
set_option maxHeartbeats 3200000 in
theorem impl_ov {w : World} {B n c n2 c2 N cN : Nat} {A A2 D : Option Addr} {R S : List E2} {C : List (List Ver)} (x : Hd) (hn : n ≤ 2097152) (hn2 : n2 ≤ 2097152) (hN : N ≤ 2097152) (h1 : Vs w B A n R) (h2 : Vs w B A2 n2 S) (h3 : Rs w B D N C) (hB : B ≤ w.heap.size) :
    Calls Try.prog 32 #[.agg #[.slice D N cN], .agg #[.int .i64 x.i, .int .i64 x.s, .int .i64 x.t, .int .i64 x.b, .int .i64 x.l, .int .i64 x.h, .int .i64 x.c, .slice A n c, .slice A2 n2 c2]] w fun e w' => ∃ A' c', e = .returned (.slice A' (ovL C x R S).length c') ∧ w'.ownsRow w.heap.size 37 2 (.slice A' (ovL C x R S).length c') (ovL C x R S).length (flat (ovL C x R S)) ∧ Below w.heap.size w w' := by
  have H1 := Lib.hid h1
  have H2 := Lib.hid h2
  have H3 := Lib.hid h3
  have hln := h1.1
  have hln2 := h2.1
  clear h1 h2 h3
  go_enter Try.func32, Try.ntmps32
  go_wp2_with fail
  have hL := LS.mk2 w (.slice D N cN) 40 27 x A n c A2 n2 c2
  generalize ((w.alloc _).alloc _) = W0 at hL ⊢
  have L0 := Lib.hid hL
  have c0 := hL.st
  clear hL
  go_wp2_with fail
  refine (val.impl_store (by omega) (H3.out.below (below_le L0.out.bel hB)) (by have := L0.out.size; omega)).mono ?_
  rintro e W1 ⟨rfl, hb⟩
  have L1 := Lib.hid (L0.out.call hb)
  clear hb c0
  rcases hst : stB C with _ | _
  · have HE := Lib.hid (no_st (x := x) (R := R) (S := S) hst)
    clear hst
    go_wp2_with fail
    go_ret
    rw [ovL_no HE.out]
    exact ⟨_, _, rfl, World.ownsRow_nil _ _ _ _, L1.out.bel⟩
  obtain ⟨t0, t1, t2, t3, t4, t5, t6, t7, t8⟩ := L1.out.tb
  have HST := Lib.hid hst
  clear hst
  go_wp2_with fail
  refine (impl_tx x (by omega) (by omega) (H1.out.below (below_le L1.out.bel hB)) (H2.out.below (below_le L1.out.bel hB)) (by have := L1.out.size; omega)).mono ?_
  rintro e W2 ⟨rfl, hb⟩
  have L2 := Lib.hid (L1.out.call hb)
  clear hb t0 t1 t2 t3 t4 t5 t6 t7 t8
  rcases htx : txB x R S with _ | _
  · have HE := Lib.hid (no_tx (C := C) htx)
    clear htx
    go_wp2_with fail
    go_ret
    rw [ovL_no HE.out]
    exact ⟨_, _, rfl, World.ownsRow_nil _ _ _ _, L2.out.bel⟩
  have HTX := Lib.hid htx
  clear htx
  obtain ⟨t0, t1, t2, t3, t4, t5, t6, t7, t8⟩ := L2.out.tb
  have hsz2 := L2.out.size
  obtain ⟨i0, hi, hz, hs, hby⟩ := info_parts info_rm
  obtain ⟨W3, hmk, hE, hg⟩ := run_make_own (P := Try.prog) W2 (w.heap.size + 1 + 1) 24 37 i0 _ 2 Try.underlying24 hi hz hs .i64 .i64 n2 (by rw [hby]; omega) (by unfold maxLen; omega) (by omega)
  have hb3 : Below W2.heap.size W2 W3 := (Below.refl _ _).grown hg (Nat.le_refl _) (fun q hq => by cases hq)
  have L3 := Lib.hid (L2.out.call hb3)
  have E3 := Lib.hid hE
  have t8' := (L3.out.tb).2.2.2.2.2.2.2.2
  clear t0 t1 t2 t3 t4 t5 t6 t7 hE hg hb3 hi hz hs hby
  go_wp2_with fail
  clear hmk t8 t8'
  go_loopw [5, 7, 23] (fun o _ i wr => ∃ (k c' : Nat) (A' : Option Addr), k ≤ n2 ∧ i = .int .i64 k ∧ o = .slice A' k c' ∧ wr.ownsRow (w.heap.size + 1 + 1) 37 2 (.slice A' k c') k (flat (ovK C S k)) ∧ LS w (.slice D N cN) x (.slice A n c) (.slice A2 n2 c2) wr) (fun _ _ i _ => n2 - (intOf i).toNat)
  case atStart => exact ⟨0, _, _, by omega, rfl, rfl, by simpa [ovK, flat] using E3.out, L3.out⟩
  case round =>
    obtain ⟨k, c', A', hk, rfl, rfl, hO, hL⟩ := hrel
    have OW := Lib.hid hO
    have LW := Lib.hid hL
    clear hO hL
    by_cases hlt : k < n2
    · obtain ⟨b, o, y, rfl, hbB, hx, a0, a1⟩ := (H2.out.below (below_le LW.out.bel hB)).at_ hlt
      have HX := Lib.hid hx
      clear hx
      have hb := new1 wr (.cells #[.int .i64 y.a, .int .i64 y.b] 55)
      have mb := boxed wr y 55
      have hs1 : wr.heap.size < (wr.alloc (.cells #[.int .i64 y.a, .int .i64 y.b] 55)).heap.size := by simp
      have LX := Lib.hid (LW.out.call hb)
      have OX := Lib.hid (own_keep OW.out hb)
      have hsz := LX.out.size
      go_wp2_with fail
      generalize wr.alloc _ = W4 at hb mb LX OX hsz hs1 ⊢
      have h6 := val.st_six HST.out
      rw [H3.out.1] at h6
      obtain ⟨s1, s2⟩ := wkey_of HTX.out HX.out
      have s3 : y.a < (N : Int) := by omega
      have s4 : y.a.toNat < N := by omega
      clear h6
      obtain ⟨b2, o2, l, A9, n9, c9, rfl, hb2, hl, d0, hn9, hv⟩ := (H3.out.below (below_le LX.out.bel hB)).at_ s4
      have HL := Lib.hid hl
      have HV := Lib.hid hv
      clear hl hv
      obtain ⟨z, hz⟩ : ∃ z, latOf C y = z := ⟨_, rfl⟩
      have HZ := Lib.hid hz
      have HLV : Hid (Go.Proofs.Ytajllccgfhminaa.find.lastV l = z) := Lib.hid (by rw [lat_at HL.out, hz])
      clear hz
      have c0 := LX.out.st
      have MB := Lib.hid mb
      obtain ⟨m0, m1⟩ := atFlat mb
      have hq : B ≤ W4.heap.size := by have := LX.out.bel.size; omega
      have hbk0 : Below W4.heap.size W4 W4.drew := (Below.refl _ _).drew
      have hf := fld2 (.int .i64 z.a) (.int .i64 z.b) (.int .i64 z.c) (.int .i64 z.d) (.int .i64 z.e)
      clear a0 a1 mb hb
      go_region_law (first | (go_simp; go_at_call 87; refine (Go.Proofs.Ytajllccgfhminaa.find.latest_impl HLV.out hn9 ((HV.out.below (below_le hbk0 hq)).more hq) (Nat.le_refl _)).mono ?_; rintro e W5 ⟨rfl, hb5⟩; have hbk1 := hbk0.trans (hb5.mono hbk0.size); have hn5 := new1 W5 (.cells #[.int .i64 y.a, .int .i64 z.c] 37); have M5 := MB.out.keep hs1 hbk1; obtain ⟨n0, n1⟩ := atFlat M5; have O5 := Lib.hid (own_keep OX.out hbk1); obtain ⟨A6, c6, W6, hr, ho6, _, hb6⟩ := app_own (c := 1) _ (own_keep O5.out hn5) (one_vs (boxed W5 ⟨y.a, z.c⟩ 37)) (by omega) (by have := hbk1.size; simp; omega)) | (refine step_append_run rfl (.tmp 27) (.tmp 39) 24 24 rfl _ _ (by simp [Act.eval, Act.put]) (by simp [Act.eval, Act.put]) hr ?_))
      all_goals
        have hb7 : Below (w.heap.size + 1 + 1) W4 W6 := ((hbk1.trans (hn5.mono hbk1.size)).mono (by omega)).trans hb6
        rw [ovK_step HX.out HZ.out] at ho6
        have O6 := Lib.hid ho6
        have L6 := Lib.hid (ls_grown LX.out hb7)
        clear hf hbk0 hbk1 hn5 hr ho6 hb6 hb7 hb5 c0 d0 m0 m1 n0 n1
        go_wp2_with fail
        go_roundw
        case rel => exact ⟨k + 1, c6, A6, by omega, by go_num, rfl, O6.out, L6.out⟩
        case measure => simp [intOf]; omega
    · obtain rfl : n2 = k := by omega
      have HE : Hid (ovK C S n2 = ovL C x R S) := Lib.hid (ov_end hln2 fun _ => both_yes HST.out HTX.out)
      have HM : Hid ((ovL C x R S).length = n2) := Lib.hid (by rw [← HE.out]; exact ovK_len (by omega))
      go_wp2_with fail
      go_ret
      rw [HM.out, ← HE.out]
      exact ⟨_, _, rfl, own_more OW.out (by omega), LW.out.bel⟩
end Go.Proofs.Ytajllccgfhminaa.ov
/- The program's and the model's ReadLatest and ReadAt: what each answers; nothing that was there is written. -/
namespace Go.Proofs.Ytajllccgfhminaa.rd
open Go.ChangeShapes Go.WideShapes Go.ChangeAt Go.RowKit
open Go.Proofs.Ytajllccgfhminaa.vers Go.Proofs.Ytajllccgfhminaa.sl Go.Proofs.Ytajllccgfhminaa.ch Go.Proofs.Ytajllccgfhminaa.st Go.Proofs.Ytajllccgfhminaa.val
open Go.Proofs.Ytajllccgfhminaa.find (lastV vAt atI vAt_yes store5 below5 latest_spec latest_impl)
set_option linter.unusedVariables false
set_option linter.unusedSimpArgs false
/-- a box of the call's own and a zero version behind it, in a world that holds what was there -/
structure Loc (w : World) (v : Value) (W : World) : Prop where
  bel : Below w.heap.size w W
  size : w.heap.size + 2 ≤ W.heap.size
  box : W.cell? ⟨w.heap.size, 0, none⟩ = some v
  zer : At W (w.heap.size + 1) 0 ⟨0, 0, 0, 0, 0⟩
  free : ∀ i, W.frozen? ⟨w.heap.size + 1, i, none⟩ = false
theorem Loc.mk2 (w : World) (v : Value) (s t : TypeId) : Loc w v ((w.alloc (.cells #[v] s)).alloc (.cells #[.int .i64 0, .int .i64 0, .int .i64 0, .int .i64 0, .int .i64 0] t)) where
  bel := new2 _ _ _
  size := by simp
  box := up _ (one_cell w v s) (by simp)
  zer := by have := boxed (w.alloc (.cells #[v] s)) ⟨0, 0, 0, 0, 0⟩ t; simpa using this
  free := fun i => by simp
theorem Loc.call {w W W' : World} {v : Value} (h : Loc w v W) (hb : Below W.heap.size W W') : Loc w v W' where
  bel := h.bel.trans (hb.mono h.bel.size)
  size := Nat.le_trans h.size hb.size
  box := (hb.cell (p := ⟨w.heap.size, 0, none⟩) (by have := h.size; simp; omega)).trans h.box
  zer := At.keep h.zer (B := W.heap.size) (by have := h.size; omega) hb
  free := fun i => (hb.frozen (p := ⟨w.heap.size + 1, i, none⟩) (by have := h.size; simp; omega)).trans (h.free i)
noncomputable def rlB (ll : List (List Ver)) (k : Int) : Bool := stB ll && In 0 5 k
noncomputable def rlV (ll : List (List Ver)) (k : Int) : Ver := if rlB ll k = true then lastV (ll.getD k.toNat []) else ⟨0, 0, 0, 0, 0⟩
noncomputable def raB (ll : List (List Ver)) (k s : Int) : Bool := rlB ll k && decide (0 ≤ vAt (ll.getD k.toNat []) s)
noncomputable def raV (ll : List (List Ver)) (k s : Int) : Ver := if raB ll k s = true then (ll.getD k.toNat []).getD (vAt (ll.getD k.toNat []) s).toNat default else ⟨0, 0, 0, 0, 0⟩
theorem rl_st {ll : List (List Ver)} {k : Int} (h : stB ll = false) : rlB ll k = false := by simp [rlB, h]
theorem rl_in {ll : List (List Ver)} {k : Int} (h : In 0 5 k = false) : rlB ll k = false := by simp [rlB, h]
theorem rl_yes {ll : List (List Ver)} {k : Int} (h : stB ll = true) (h2 : In 0 5 k = true) : rlB ll k = true := by simp [rlB, h, h2]
theorem rlV_no {ll : List (List Ver)} {k : Int} (h : rlB ll k = false) : rlV ll k = ⟨0, 0, 0, 0, 0⟩ := by simp [rlV, h]
theorem rlV_yes {ll : List (List Ver)} {k : Int} {l : List Ver} (h : rlB ll k = true) (hl : ll[k.toNat]? = some l) : rlV ll k = lastV l := by simp [rlV, h, List.getD, hl]
theorem ra_rl {ll : List (List Ver)} {k s : Int} (h : rlB ll k = false) : raB ll k s = false := by simp [raB, h]
theorem ra_at {ll : List (List Ver)} {k s : Int} {l : List Ver} (hl : ll[k.toNat]? = some l) (h : vAt l s < 0) : raB ll k s = false := by
  have : ll.getD k.toNat [] = l := by simp [List.getD, hl]
  unfold raB
  rw [this, decide_eq_false (by omega), Bool.and_false]
theorem ra_yes {ll : List (List Ver)} {k s : Int} {l : List Ver} (h : rlB ll k = true) (hl : ll[k.toNat]? = some l) (h2 : 0 ≤ vAt l s) : raB ll k s = true := by
  have : ll.getD k.toNat [] = l := by simp [List.getD, hl]
  unfold raB
  rw [this, h, decide_eq_true h2]
  rfl
theorem raV_no {ll : List (List Ver)} {k s : Int} (h : raB ll k s = false) : raV ll k s = ⟨0, 0, 0, 0, 0⟩ := by simp [raV, h]
theorem raV_yes {ll : List (List Ver)} {k s : Int} {l : List Ver} {x : Ver} {j : Nat} (h : raB ll k s = true) (hl : ll[k.toNat]? = some l) (hj : vAt l s = j) (hx : l[j]? = some x) : raV ll k s = x := by
  have : ll.getD k.toNat [] = l := by simp [List.getD, hl]
  unfold raV
  rw [if_pos h, this, hj]
  simp [List.getD, hx]
theorem atI_range (s : Int) (l : List Ver) (k : Nat) : -1 ≤ atI s l k ∧ atI s l k < (k : Int) := by
  induction k with
  | zero => exact ⟨by simp [atI], by simp [atI]⟩
  | succ k ih =>
    unfold atI
    split
    · exact ⟨by omega, by omega⟩
    · exact ⟨ih.1, by omega⟩
theorem vAt_range {l : List Ver} (s : Int) (h : chB l = true) : -1 ≤ vAt l s ∧ vAt l s < (l.length : Int) := by
  rw [← vAt_yes rfl h]
  exact atI_range s l _
set_option maxRecDepth 100000 in
set_option maxHeartbeats 1600000 in
theorem impl_latest {w : World} {B n c : Nat} {A : Option Addr} {ll : List (List Ver)} {x : Ver} {q : Bool} (k : Int) (hx : rlV ll k = x) (hq : rlB ll k = q) (hn : n ≤ 140737488355328) (h1 : Rs w B A n ll) (hB : B ≤ w.heap.size) :
    Calls Try.prog 81 #[.agg #[.slice A n c], .int .i64 k] w fun e w' => e = .returned (.tuple #[.agg #[.int .i64 x.a, .int .i64 x.b, .int .i64 x.c, .int .i64 x.d, .int .i64 x.e], .bool q]) ∧ Below w.heap.size w w' := by
  have H1 := Lib.hid h1
  have hln := h1.1
  clear h1
  rcases hin : In 0 5 k with _ | _
  · have hr := rl_in (ll := ll) (k := k) hin
    rw [rlV_no hr] at hx
    rw [hr] at hq
    subst hx hq
    clear hr
    go_enter Try.func81, Try.ntmps81
    go_wp2_with fail
    have hL := Loc.mk2 w (.slice A n c) 40 29
    generalize ((w.alloc _).alloc _) = W0 at hL ⊢
    have L0 := Lib.hid hL
    clear hL
    refine (is_key _ _).mono ?_
    rintro e W1 ⟨rfl, rfl⟩
    rw [hin]
    obtain ⟨z0, z1, z2, z3, z4⟩ := atFlat L0.out.zer
    have g0 := L0.out.free 0
    have g1 := L0.out.free 1
    have g2 := L0.out.free 2
    have g3 := L0.out.free 3
    have g4 := L0.out.free 4
    have c0 := L0.out.box
    have hsz := L0.out.size
    simp only at z0 z1 z2 z3 z4
    go_wp2_with fail
    have hs := store5 L0.out.zer ⟨0, 0, 0, 0, 0⟩
    have hl := below5 (b := w.heap.size + 1) L0.out.bel (by omega) ⟨0, 0, 0, 0, 0⟩
    generalize (((((World.setCell _ _ _).setCell _ _).setCell _ _).setCell _ _).setCell _ _) = Wf at hs hl ⊢
    obtain ⟨s0, s1, s2, s3, s4⟩ := atFlat hs
    try simp only at s0 s1 s2 s3 s4
    exact bodyPost_ret (v := .tuple #[.agg #[.int .i64 0, .int .i64 0, .int .i64 0, .int .i64 0, .int .i64 0], .bool false]) (by simp [results, Try.results81, go_sem, s0, s1, s2, s3, s4]) rfl ⟨rfl, hl⟩
  rcases hst : stB ll with _ | _
  · have hr := rl_st (ll := ll) (k := k) hst
    rw [rlV_no hr] at hx
    rw [hr] at hq
    subst hx hq
    clear hr
    go_enter Try.func81, Try.ntmps81
    go_wp2_with fail
    have hL := Loc.mk2 w (.slice A n c) 40 29
    generalize ((w.alloc _).alloc _) = W0 at hL ⊢
    have L0 := Lib.hid hL
    clear hL
    refine (is_key _ _).mono ?_
    rintro e W1 ⟨rfl, rfl⟩
    rw [hin]
    obtain ⟨z0, z1, z2, z3, z4⟩ := atFlat L0.out.zer
    have g0 := L0.out.free 0
    have g1 := L0.out.free 1
    have g2 := L0.out.free 2
    have g3 := L0.out.free 3
    have g4 := L0.out.free 4
    have c0 := L0.out.box
    have hsz := L0.out.size
    simp only at z0 z1 z2 z3 z4
    go_wp2_with fail
    refine (impl_store hn (H1.out.below (below_le L0.out.bel hB)) (by have := L0.out.size; omega)).mono ?_
    rintro e W1 ⟨rfl, hb⟩
    rw [hst]
    have L1 := Lib.hid (L0.out.call hb)
    clear hb
    clear z0 z1 z2 z3 z4 g0 g1 g2 g3 g4 c0 hsz
    obtain ⟨z0, z1, z2, z3, z4⟩ := atFlat L1.out.zer
    have g0 := L1.out.free 0
    have g1 := L1.out.free 1
    have g2 := L1.out.free 2
    have g3 := L1.out.free 3
    have g4 := L1.out.free 4
    have c0 := L1.out.box
    have hsz := L1.out.size
    simp only at z0 z1 z2 z3 z4
    go_wp2_with fail
    have hs := store5 L1.out.zer ⟨0, 0, 0, 0, 0⟩
    have hl := below5 (b := w.heap.size + 1) L1.out.bel (by omega) ⟨0, 0, 0, 0, 0⟩
    generalize (((((World.setCell _ _ _).setCell _ _).setCell _ _).setCell _ _).setCell _ _) = Wf at hs hl ⊢
    obtain ⟨s0, s1, s2, s3, s4⟩ := atFlat hs
    try simp only at s0 s1 s2 s3 s4
    exact bodyPost_ret (v := .tuple #[.agg #[.int .i64 0, .int .i64 0, .int .i64 0, .int .i64 0, .int .i64 0], .bool false]) (by simp [results, Try.results81, go_sem, s0, s1, s2, s3, s4]) rfl ⟨rfl, hl⟩
  have hr := rl_yes hst hin
  have hk := in_yes hin
  have hsix := st_six hst
  obtain ⟨b, o, l, A2, n2, c2, rfl, hbB, hl, hcell, hn2, hv⟩ := H1.out.at_ (k := k.toNat) (by omega)
  have hok := st_ok hst hl
  have hch := okL_ch_of hok
  have HC := Lib.hid hcell
  have HV := Lib.hid hv
  have hl2 := hv.1
  have hlen := okL_len hok
  have hxl : lastV l = x := by rw [← hx, rlV_yes hr hl]
  rw [hr] at hq
  subst hq
  clear hx hr hl hv hcell hok hch
  have t0 : (k.toNat : Int) = k := by omega
  have HXL := Lib.hid hxl
  clear hxl
  have t1 : (0 : Int) ≤ k := by omega
  have t2 : k < (n : Int) := by omega
  go_enter Try.func81, Try.ntmps81
  go_wp2_with fail
  have hL := Loc.mk2 w (.slice (some ⟨b, o, none⟩) n c) 40 29
  generalize ((w.alloc _).alloc _) = W0 at hL ⊢
  have L0 := Lib.hid hL
  clear hL
  refine (is_key _ _).mono ?_
  rintro e W1 ⟨rfl, rfl⟩
  rw [hin]
  obtain ⟨z0, z1, z2, z3, z4⟩ := atFlat L0.out.zer
  have g0 := L0.out.free 0
  have g1 := L0.out.free 1
  have g2 := L0.out.free 2
  have g3 := L0.out.free 3
  have g4 := L0.out.free 4
  have c0 := L0.out.box
  have hsz := L0.out.size
  simp only at z0 z1 z2 z3 z4
  go_wp2_with fail
  refine (impl_store hn (H1.out.below (below_le L0.out.bel hB)) (by have := L0.out.size; omega)).mono ?_
  rintro e W1 ⟨rfl, hb⟩
  rw [hst]
  have L1 := Lib.hid (L0.out.call hb)
  clear hb
  clear z0 z1 z2 z3 z4 g0 g1 g2 g3 g4 c0 hsz
  obtain ⟨z0, z1, z2, z3, z4⟩ := atFlat L1.out.zer
  have g0 := L1.out.free 0
  have g1 := L1.out.free 1
  have g2 := L1.out.free 2
  have g3 := L1.out.free 3
  have g4 := L1.out.free 4
  have c0 := L1.out.box
  have hsz := L1.out.size
  simp only at z0 z1 z2 z3 z4
  have d0 := (L1.out.bel.cell (p := ⟨b, o + k.toNat, none⟩) (by simp; omega)).trans HC.out
  go_wp2_with fail
  refine (latest_impl HXL.out hn2 (HV.out.below (below_le L1.out.bel hB)) (by omega)).mono ?_
  rintro e W3 ⟨rfl, hb⟩
  have L3 := Lib.hid (L1.out.call hb)
  clear hb d0
  clear z0 z1 z2 z3 z4 g0 g1 g2 g3 g4 c0 hsz
  obtain ⟨z0, z1, z2, z3, z4⟩ := atFlat L3.out.zer
  have g0 := L3.out.free 0
  have g1 := L3.out.free 1
  have g2 := L3.out.free 2
  have g3 := L3.out.free 3
  have g4 := L3.out.free 4
  have c0 := L3.out.box
  have hsz := L3.out.size
  simp only at z0 z1 z2 z3 z4
  go_wp2_with fail
  have hs := store5 L3.out.zer x
  have hl := below5 (b := w.heap.size + 1) L3.out.bel (by omega) x
  generalize (((((World.setCell _ _ _).setCell _ _).setCell _ _).setCell _ _).setCell _ _) = Wf at hs hl ⊢
  obtain ⟨s0, s1, s2, s3, s4⟩ := atFlat hs
  try simp only at s0 s1 s2 s3 s4
  exact bodyPost_ret (v := .tuple #[.agg #[.int .i64 x.a, .int .i64 x.b, .int .i64 x.c, .int .i64 x.d, .int .i64 x.e], .bool true]) (by simp [results, Try.results81, go_sem, s0, s1, s2, s3, s4]) rfl ⟨rfl, hl⟩
end Go.Proofs.Ytajllccgfhminaa.rd
/- ReadValue of the program and of the model: what each answers; nothing that was there is written. -/
namespace Go.Proofs.Ytajllccgfhminaa.rv
open Go.ChangeShapes Go.WideShapes Go.ChangeAt Go.RowKit
open Go.Proofs.Ytajllccgfhminaa.el2 Go.Proofs.Ytajllccgfhminaa.tx Go.Proofs.Ytajllccgfhminaa.seq Go.Proofs.Ytajllccgfhminaa.tv Go.Proofs.Ytajllccgfhminaa.tf Go.Proofs.Ytajllccgfhminaa.rx Go.Proofs.Ytajllccgfhminaa.ri
open Go.Proofs.Ytajllccgfhminaa.vers (new2 In in_yes)
open Go.Proofs.Ytajllccgfhminaa.sl (Ver)
open Go.Proofs.Ytajllccgfhminaa.st (Rs)
open Go.Proofs.Ytajllccgfhminaa.val (stB)
open Go.Proofs.Ytajllccgfhminaa.find (fndI)
set_option linter.unusedVariables false
set_option linter.unusedSimpArgs false
noncomputable def okB (C : List (List Ver)) (x : Hd) (R S : List E2) (k : Int) : Bool := stB C && txB x R S && In 0 5 k
noncomputable def rvB (C : List (List Ver)) (x : Hd) (R S : List E2) (k cr : Int) : Bool := okB C x R S k && (decide (0 ≤ fndW k S 0) || hasV C ⟨k, cr⟩)
noncomputable def rvV (C : List (List Ver)) (x : Hd) (R S : List E2) (k cr : Int) : Int := if rvB C x R S k cr = true then (if 0 ≤ fndW k S 0 then (S.getD (fndW k S 0).toNat default).b else (verOf C ⟨k, cr⟩).b) else 0
section
variable {C : List (List Ver)} {x : Hd} {R S : List E2} {k cr : Int}
theorem ok_st (h : stB C = false) : okB C x R S k = false := by simp [okB, h]
theorem ok_tx (h : txB x R S = false) : okB C x R S k = false := by simp [okB, h]
theorem ok_in (h : In 0 5 k = false) : okB C x R S k = false := by simp [okB, h]
theorem ok_yes (h : stB C = true) (h2 : txB x R S = true) (h3 : In 0 5 k = true) : okB C x R S k = true := by simp [okB, h, h2, h3]
theorem rvB_ok (h : okB C x R S k = false) : false = rvB C x R S k cr := by simp [rvB, h]
theorem rvB_w (h : okB C x R S k = true) (h2 : 0 ≤ fndW k S 0) : true = rvB C x R S k cr := by simp [rvB, h, h2]
theorem rvB_s (h : okB C x R S k = true) (h2 : fndW k S 0 < 0) : hasV C ⟨k, cr⟩ = rvB C x R S k cr := by
  have h3 : ¬ 0 ≤ fndW k S 0 := by omega
  simp [rvB, h, h3]
theorem rvV_no (h : false = rvB C x R S k cr) : 0 = rvV C x R S k cr := by simp [rvV, ← h]
theorem rvV_w {j : Nat} {m : E2} (h : okB C x R S k = true) (h2 : fndW k S 0 = j) (hm : S[j]? = some m) : m.b = rvV C x R S k cr := by
  have h0 : 0 ≤ fndW k S 0 := by omega
  rw [rvV, if_pos (rvB_w h h0).symm, if_pos h0, h2]
  simp [List.getD, hm]
theorem rvV_s (h : okB C x R S k = true) (h2 : fndW k S 0 < 0) (h3 : hasV C ⟨k, cr⟩ = true) : (verOf C ⟨k, cr⟩).b = rvV C x R S k cr := by
  rw [rvV, if_pos ((rvB_s h h2).symm.trans h3), if_neg (by omega)]
theorem ret_2 {a b : Int} {p q : Bool} (h : a = b) (h2 : p = q) : Ending.returned (.tuple #[.int .i64 a, .bool p]) = .returned (.tuple #[.int .i64 b, .bool q]) := by rw [h, h2]
end
theorem fndw_range (c : Int) (l : List E2) (k : Nat) : fndW c l k = -1 ∨ ((k : Int) ≤ fndW c l k ∧ fndW c l k < k + l.length) := by
  induction l generalizing k with
  | nil => left; rfl
  | cons x r ih =>
    unfold fndW
    split
    · right
      refine ⟨by omega, ?_⟩
      simp
      omega
    · rcases ih (k + 1) with h | ⟨h1, h2⟩
      · left; exact h
      · right
        refine ⟨by omega, ?_⟩
        simp only [List.length_cons]
        omega
theorem fndw_lt {c : Int} {l : List E2} (h : 0 ≤ fndW c l 0) : ∃ j : Nat, fndW c l 0 = j ∧ j < l.length := by
  rcases fndw_range c l 0 with e | ⟨h1, h2⟩
  · omega
  · exact ⟨(fndW c l 0).toNat, by omega, by omega⟩
set_option maxRecDepth 100000 in
set_option maxHeartbeats 3200000 in
theorem impl_rv {w : World} {B n c n2 c2 N cN : Nat} {A A2 D : Option Addr} {R S : List E2} {C : List (List Ver)} (x : Hd) (key cr : Int) (hn : n ≤ 140737488355328) (hn2 : n2 ≤ 140737488355328) (hN : N ≤ 140737488355328) (h1 : Vs w B A n R) (h2 : Vs w B A2 n2 S) (h3 : Rs w B D N C) (hB : B ≤ w.heap.size) :
    Calls Try.prog 31 #[.agg #[.slice D N cN], .agg #[.int .i64 x.i, .int .i64 x.s, .int .i64 x.t, .int .i64 x.b, .int .i64 x.l, .int .i64 x.h, .int .i64 x.c, .slice A n c, .slice A2 n2 c2], .int .i64 key, .int .i64 cr] w fun e w' => e = .returned (.tuple #[.int .i64 (rvV C x R S key cr), .bool (rvB C x R S key cr)]) ∧ Below w.heap.size w w' := by
  have H1 := Lib.hid h1
  have H2 := Lib.hid h2
  have H3 := Lib.hid h3
  clear h1 h2 h3
  go_enter Try.func31, Try.ntmps31
  go_wp2_with fail
  have hL := LS.mk2 w (.slice D N cN) 40 27 x A n c A2 n2 c2
  generalize ((w.alloc _).alloc _) = W0 at hL ⊢
  have L0 := Lib.hid hL
  have c0 := hL.st
  clear hL
  go_wp2_with fail
  refine (val.impl_store hN (H3.out.below (below_le L0.out.bel hB)) (by have := L0.out.size; omega)).mono ?_
  rintro e W1 ⟨rfl, hb⟩
  have L1 := Lib.hid (L0.out.call hb)
  obtain ⟨t0, t1, t2, t3, t4, t5, t6, t7, t8⟩ := L1.out.tb
  clear hb c0
  rcases hst : stB C with _ | _
  · have HST := Lib.hid hst
    clear hst t0 t1 t2 t3 t4 t5 t6 t7 t8
    go_wp2_with fail
    go_ret2
    exact ⟨ret_2 (rvV_no (rvB_ok (ok_st HST.out))) (rvB_ok (ok_st HST.out)), L1.out.bel⟩
  have HST := Lib.hid hst
  clear hst
  go_wp2_with fail
  refine (tv.impl_tx x hn hn2 (H1.out.below (below_le L1.out.bel hB)) (H2.out.below (below_le L1.out.bel hB)) (by have := L1.out.size; omega)).mono ?_
  rintro e W2 ⟨rfl, hb⟩
  have L2 := Lib.hid (L1.out.call hb)
  clear hb t0 t1 t2 t3 t4 t5 t6 t7 t8
  rcases htx : txB x R S with _ | _
  · have HTX := Lib.hid htx
    clear htx
    go_wp2_with fail
    go_ret2
    exact ⟨ret_2 (rvV_no (rvB_ok (ok_tx HTX.out))) (rvB_ok (ok_tx HTX.out)), L2.out.bel⟩
  have HTX := Lib.hid htx
  clear htx
  go_wp2_with fail
  refine (tv.is_key _ _).mono ?_
  rintro e W3 ⟨rfl, rfl⟩
  rcases hin : In 0 5 key with _ | _
  · have HIN := Lib.hid hin
    clear hin
    go_wp2_with fail
    go_ret2
    exact ⟨ret_2 (rvV_no (rvB_ok (ok_in HIN.out))) (rvB_ok (ok_in HIN.out)), L2.out.bel⟩
  have OK := Lib.hid (ok_yes HST.out HTX.out hin)
  obtain ⟨s1, s2⟩ := in_yes hin
  have h6 := val.st_six HST.out
  rw [H3.out.1] at h6
  have s3 : key < (N : Int) := by omega
  have s4 : key.toNat < N := by omega
  obtain ⟨t0, t1, t2, t3, t4, t5, t6, t7, t8⟩ := L2.out.tb
  clear hin h6 s2
  go_wp2_with fail
  refine (impl_findw x key hn hn2 (H1.out.below (below_le L2.out.bel hB)) (H2.out.below (below_le L2.out.bel hB)) (by have := L2.out.size; omega)).mono ?_
  rintro e W4 ⟨rfl, hb⟩
  have L4 := Lib.hid (L2.out.call hb)
  clear hb t0 t1 t2 t3 t4 t5 t6 t7 t8
  by_cases hz : 0 ≤ fndW key S 0
  · obtain ⟨j, hj, hjl⟩ := fndw_lt hz
    rw [hj]
    have hln := H2.out.1
    obtain ⟨b, o, m, rfl, hbB, hx, a0, a1⟩ := (H2.out.below (below_le L4.out.bel hB)).at_ (k := j) (by omega)
    have HJ := Lib.hid hj
    have HX := Lib.hid hx
    obtain ⟨t0, t1, t2, t3, t4, t5, t6, t7, t8⟩ := L4.out.tb
    have hj0 : (0 : Int) ≤ (j : Int) := by omega
    have hj1 : (j : Int) < (n2 : Int) := by omega
    have t : decide (0 ≤ (j : Int)) = true := decide_eq_true hj0
    clear hj hx hz hjl hln t0 t1 t2 t3 t4 t5 t6 t7 a0
    go_wp2_with fail
    go_ret2
    exact ⟨ret_2 (rvV_w OK.out HJ.out HX.out) (rvB_w OK.out (by rw [HJ.out]; omega)), L4.out.bel⟩
  obtain ⟨z, hzz⟩ : ∃ z, fndW key S 0 = z := ⟨_, rfl⟩
  rw [hzz] at hz ⊢
  have t : decide (0 ≤ z) = false := decide_eq_false hz
  have HZ : Hid (fndW key S 0 < 0) := Lib.hid (by rw [hzz]; omega)
  clear hzz hz
  have c0 := L4.out.st
  go_wp2_with fail
  refine (impl_vof (⟨key, cr⟩ : E2) w.heap.size (by have := L4.out.size; omega) c0 s1 s3 (H3.out.below (below_le L4.out.bel hB)) (by have := L4.out.size; omega)).mono ?_
  rintro e W5 ⟨⟨hh, rfl⟩ | ⟨hh, b4, o4, rfl, hbB4, hA⟩, hb⟩
  · have HB5 := Lib.hid (L4.out.call hb).bel
    have HR : Hid (false = rvB C x R S key cr) := Lib.hid (by rw [← rvB_s OK.out HZ.out, hh])
    clear hb hh c0
    go_wp2_with fail
    go_ret2
    exact ⟨ret_2 (rvV_no HR.out) HR.out, HB5.out⟩
  · have HB5 := Lib.hid (L4.out.call hb).bel
    have HH := Lib.hid hh
    obtain ⟨e0, e1, e2, e3, e4⟩ := hA
    obtain ⟨u, hu⟩ : ∃ u, (verOf C ⟨key, cr⟩).b = u := ⟨_, rfl⟩
    rw [hu] at e1
    have HU := Lib.hid hu
    clear hb hh e0 e2 e3 e4 hu c0
    go_wp2_with fail
    go_ret2
    exact ⟨ret_2 (by rw [← rvV_s OK.out HZ.out HH.out, HU.out]) (by rw [← rvB_s OK.out HZ.out, HH.out]), HB5.out⟩
end Go.Proofs.Ytajllccgfhminaa.rv
/- What a map of writes holds, and what its entries are in rising order: the list with the write put in its place. Plain mathematics. -/
namespace Go.Proofs.Ytajllccgfhminaa.mw
open Go.Maps
open Go.Proofs.Ytajllccgfhminaa.el2 Go.Proofs.Ytajllccgfhminaa.pw
set_option linter.unusedVariables false
set_option linter.unusedSimpArgs false
abbrev kl (x : Int) : Lit := .int .i64 x
theorem isk (x : Int) : WideAt.IsKeyLit (kl x) := trivial
theorem kl_ne {x y : Int} (h : x ≠ y) : kl x ≠ kl y := fun e => h (by injection e)
theorem kl_same (x y : Int) : (kl x).sameKey (kl y) = decide (x = y) := by simp [Lit.sameKey]
/-- at integer keys the map holds what f says -/
def MI (D : DataW Unit) (f : Int → Option Int) : Prop := IsMap D ∧ ∀ x, has D (kl x) = (f x).isSome ∧ ∀ v z, f x = some v → D.atKey (kl x) z = .lit (kl v)
def upd (f : Int → Option Int) (k v : Int) : Int → Option Int := fun x => if x = k then some v else f x
theorem MI.empty : MI (.map []) (fun _ => none) := ⟨isMap_empty, fun x => ⟨rfl, fun v z h => by cases h⟩⟩
theorem MI.put {D : DataW Unit} {f : Int → Option Int} (h : MI D f) (k v : Int) : MI (D.put (kl k) (.lit (kl v))) (upd f k v) := by
  refine ⟨h.1.put _ _, fun x => ?_⟩
  by_cases e : x = k
  · subst e
    refine ⟨by rw [has_put_same h.1 (isk x)]; simp [upd], fun v' z hv => ?_⟩
    rw [atKey_put_same h.1 (isk x)]
    simp [upd] at hv
    rw [hv]
  · refine ⟨by rw [has_put_other (kl_ne e)]; simp [upd, e, (h.2 x).1], fun v' z hv => ?_⟩
    rw [atKey_put_other (kl_ne e)]
    simp [upd, e] at hv
    exact (h.2 x).2 v' z hv
/-- what a list of writes says, the last of a key last -/
def mf : List E2 → Int → Option Int := fun l => l.foldl (fun f y => upd f y.a y.b) (fun _ => none)
theorem mf_snoc (l : List E2) (y : E2) : mf (l ++ [y]) = upd (mf l) y.a y.b := by simp [mf, List.foldl_append]
theorem mf_step {l : List E2} {k : Nat} {y : E2} (h : l[k]? = some y) : mf (l.take (k + 1)) = upd (mf (l.take k)) y.a y.b := by
  rw [List.take_add_one, h]
  exact mf_snoc _ _
/-- rising by key -/
abbrev Asc (l : List E2) : Prop := l.Pairwise (fun x y => x.a < y.a)
theorem upd_get {f : Int → Option Int} {k v x u : Int} : upd f k v x = some u ↔ (x = k ∧ u = v) ∨ (x ≠ k ∧ f x = some u) := by
  unfold upd
  split
  · rename_i h; subst h; constructor
    · intro e; injection e with e; exact .inl ⟨rfl, e.symm⟩
    · rintro (⟨_, e⟩ | ⟨e, _⟩)
      · rw [e]
      · exact absurd rfl e
  · rename_i h; constructor
    · intro e; exact .inr ⟨h, e⟩
    · rintro (⟨e, _⟩ | ⟨_, e⟩)
      · exact absurd e h
      · exact e
theorem fold_get : ∀ (l : List E2) (f : Int → Option Int), l.Pairwise (fun x y => x.a ≠ y.a) → ∀ x u, l.foldl (fun f y => upd f y.a y.b) f x = some u ↔ (⟨x, u⟩ ∈ l ∨ ((∀ y ∈ l, y.a ≠ x) ∧ f x = some u))
  | [], f, _, x, u => by simp
  | y :: r, f, h, x, u => by
    obtain ⟨h1, h2⟩ := List.pairwise_cons.1 h
    rw [List.foldl_cons, fold_get r _ h2 x u, upd_get]
    constructor
    · rintro (hm | ⟨ha, (⟨e1, e2⟩ | ⟨e1, e2⟩)⟩)
      · exact .inl (List.mem_cons_of_mem _ hm)
      · subst e1 e2; exact .inl (by simp)
      · exact .inr ⟨fun z hz => by
          rcases List.mem_cons.1 hz with e | hz
          · subst e; exact fun e => e1 e.symm
          · exact ha z hz, e2⟩
    · rintro (hm | ⟨ha, e⟩)
      · rcases List.mem_cons.1 hm with e | hm
        · subst e; exact .inr ⟨fun z hz => fun e => h1 z hz e.symm, .inl ⟨rfl, rfl⟩⟩
        · exact .inl hm
      · exact .inr ⟨fun z hz => ha z (List.mem_cons_of_mem _ hz), .inr ⟨fun e => ha y (by simp) e.symm, e⟩⟩
theorem asc_ne {l : List E2} (h : Asc l) : l.Pairwise (fun x y => x.a ≠ y.a) := h.imp fun {x y} h => by omega
theorem mf_get {l : List E2} (h : Asc l) (x u : Int) : mf l x = some u ↔ (⟨x, u⟩ : E2) ∈ l := by
  unfold mf
  rw [fold_get l _ (asc_ne h) x u]
  simp
/-- two rising lists with the same members -/
theorem asc_ext : ∀ {l m : List E2}, Asc l → Asc m → (∀ x, x ∈ l ↔ x ∈ m) → l = m
  | [], [], _, _, _ => rfl
  | [], y :: s, _, _, h => absurd ((h y).2 (by simp)) (by simp)
  | x :: r, [], _, _, h => absurd ((h x).1 (by simp)) (by simp)
  | x :: r, y :: s, h1, h2, h => by
    obtain ⟨a1, a2⟩ := List.pairwise_cons.1 h1
    obtain ⟨b1, b2⟩ := List.pairwise_cons.1 h2
    have hx := (h x).1 (by simp)
    have hy := (h y).2 (by simp)
    have e : x = y := by
      rcases List.mem_cons.1 hx with e | hx
      · exact e
      · rcases List.mem_cons.1 hy with e | hy
        · exact e.symm
        · have := b1 x hx; have := a1 y hy; omega
    subst e
    rw [asc_ext a2 b2 fun z => ⟨fun hz => by
      rcases List.mem_cons.1 ((h z).1 (List.mem_cons_of_mem _ hz)) with e | hm
      · subst e; have := a1 z hz; omega
      · exact hm, fun hz => by
      rcases List.mem_cons.1 ((h z).2 (List.mem_cons_of_mem _ hz)) with e | hm
      · subst e; have := b1 z hz; omega
      · exact hm⟩]
theorem posW_lt {key : Int} : ∀ {l : List E2} {x : E2}, x ∈ l.take (posW key l) → x.a < key
  | [], x, h => by simp at h
  | y :: r, x, h => by
    unfold posW at h
    split at h
    · rename_i hlt
      rw [List.take_succ_cons] at h
      rcases List.mem_cons.1 h with e | h
      · subst e; exact hlt
      · exact posW_lt h
    · simp at h
theorem posW_ge {key : Int} : ∀ {l : List E2}, Asc l → ∀ {x : E2}, x ∈ l.drop (posW key l) → key ≤ x.a
  | [], _, x, h => by simp at h
  | y :: r, ha, x, h => by
    obtain ⟨h1, h2⟩ := List.pairwise_cons.1 ha
    unfold posW at h
    split at h
    · rw [List.drop_succ_cons] at h
      exact posW_ge h2 h
    · rename_i hge
      rw [List.drop_zero] at h
      rcases List.mem_cons.1 h with e | h
      · subst e; omega
      · have := h1 x h; omega
/-- what stands behind the place: nothing of the key, all that is greater -/
theorem tail_mem {m : E2} {l : List E2} (ha : Asc l) {x : E2} : x ∈ (if ((l[posW m.a l]?).map (·.a)) = some m.a then l.drop (posW m.a l + 1) else l.drop (posW m.a l)) ↔ (x ∈ l.drop (posW m.a l) ∧ x.a ≠ m.a) := by
  have hd : (l.drop (posW m.a l)).Pairwise (fun x y => x.a < y.a) := ha.sublist (List.drop_sublist _ _)
  cases hg : l[posW m.a l]? with
  | none =>
    have hl : l.length ≤ posW m.a l := by
      rcases Nat.lt_or_ge (posW m.a l) l.length with h | h
      · rw [List.getElem?_eq_getElem h] at hg; cases hg
      · exact h
    simp [List.drop_of_length_le hl]
  | some y =>
    have hlt := lt_get hg
    have hc : l.drop (posW m.a l) = y :: l.drop (posW m.a l + 1) := by
      rw [List.drop_eq_getElem_cons hlt]
      rw [List.getElem?_eq_getElem hlt] at hg
      injection hg with hg
      rw [hg]
    rw [hc] at hd
    obtain ⟨d1, d2⟩ := List.pairwise_cons.1 hd
    have hyge := posW_ge (key := m.a) ha (x := y) (by rw [hc]; simp)
    by_cases e : y.a = m.a
    · simp only [Option.map_some, e, if_true, hc]
      constructor
      · intro h; exact ⟨List.mem_cons_of_mem _ h, by have := d1 x h; omega⟩
      · rintro ⟨h, hne⟩
        rcases List.mem_cons.1 h with e2 | h
        · subst e2; exact absurd e hne
        · exact h
    · rw [if_neg (by simp [e]), hc]
      constructor
      · intro h
        refine ⟨h, ?_⟩
        rcases List.mem_cons.1 h with e2 | h
        · subst e2; exact e
        · have := d1 x h; omega
      · exact fun h => h.1
theorem insW_mem {m : E2} {l : List E2} (ha : Asc l) {x : E2} : x ∈ insW m l ↔ (x = m ∨ (x ∈ l ∧ x.a ≠ m.a)) := by
  unfold insW
  rw [List.mem_append, List.mem_cons, tail_mem ha]
  constructor
  · rintro (h | h | h)
    · exact .inr ⟨List.mem_of_mem_take h, by have := posW_lt h; omega⟩
    · exact .inl h
    · exact .inr ⟨List.mem_of_mem_drop h.1, h.2⟩
  · rintro (h | ⟨h, hne⟩)
    · exact .inr (.inl h)
    · rw [← List.take_append_drop (posW m.a l) l] at h
      rcases List.mem_append.1 h with h | h
      · exact .inl h
      · exact .inr (.inr ⟨h, hne⟩)
theorem insW_asc {m : E2} {l : List E2} (ha : Asc l) : Asc (insW m l) := by
  have hs : (if ((l[posW m.a l]?).map (·.a)) = some m.a then l.drop (posW m.a l + 1) else l.drop (posW m.a l)).Sublist l := by
    split <;> exact List.drop_sublist _ _
  unfold insW
  refine List.pairwise_append.2 ⟨ha.sublist (List.take_sublist _ _), List.pairwise_cons.2 ⟨fun x hx => ?_, ha.sublist hs⟩, fun x hx y hy => ?_⟩
  · obtain ⟨h1, h2⟩ := (tail_mem ha).1 hx
    have := posW_ge ha h1
    omega
  · have h1 := posW_lt hx
    rcases List.mem_cons.1 hy with e | hy
    · subst e; exact h1
    · have := posW_ge ha ((tail_mem ha).1 hy).1
      omega
/-- the entries of the map, in rising order -/
theorem asc_insW {m : E2} {l r : List E2} (ha : Asc l) (hr : Asc r) (h : ∀ x u, upd (mf l) m.a m.b x = some u ↔ (⟨x, u⟩ : E2) ∈ r) : r = insW m l := by
  refine asc_ext hr (insW_asc ha) fun z => ?_
  rw [← h z.a z.b, upd_get, mf_get ha, insW_mem ha]
  constructor
  · rintro (⟨h1, h2⟩ | ⟨h1, h2⟩)
    · exact .inl (by ext <;> assumption)
    · exact .inr ⟨h2, h1⟩
  · rintro (e | ⟨h1, h2⟩)
    · subst e; exact .inl ⟨rfl, rfl⟩
    · exact .inr ⟨h2, h1⟩
/-! what the range over the map has gathered -/
/-- r: what has come so far; left: which keys are still to come -/
def Got (f : Int → Option Int) (left : Lit → Bool) (r : List E2) : Prop :=
  r.Pairwise (fun x y => x.a ≠ y.a) ∧ (∀ y ∈ r, f y.a = some y.b ∧ left (kl y.a) = false) ∧ ∀ x u, f x = some u → left (kl x) = true ∨ (⟨x, u⟩ : E2) ∈ r
theorem Got.start {D : DataW Unit} {f : Int → Option Int} (h : MI D f) : Got f (has D) [] :=
  ⟨List.Pairwise.nil, fun y hy => by simp at hy, fun x u hu => .inl (by rw [(h.2 x).1, hu]; rfl)⟩
theorem Got.step {D : DataW Unit} {f : Int → Option Int} {left : Lit → Bool} {r : List E2} {x c : Int} (hm : MI D f) (h : Got f left r) (hl : left (kl x) = true) (hle : ∀ k, left k = true → has D k = true) (hat : ∀ zd, D.atKey (kl x) zd = .lit (kl c)) :
    Got f (fun z => left z && !z.sameKey (kl x)) (r ++ [⟨x, c⟩]) := by
  have hx : f x = some c := by
    have h1 := hle _ hl
    rw [(hm.2 x).1] at h1
    cases hf : f x with
    | none => rw [hf] at h1; cases h1
    | some v =>
      have h2 := (hm.2 x).2 v .nil hf
      rw [hat] at h2
      injection h2 with h2
      injection h2 with _ h2
      rw [h2]
  refine ⟨List.pairwise_append.2 ⟨h.1, List.pairwise_singleton _ _, fun y hy z hz => ?_⟩, fun y hy => ?_, fun y u hu => ?_⟩
  · rw [List.mem_singleton] at hz
    subst hz
    intro e
    have := (h.2.1 y hy).2
    rw [show y.a = x from e, hl] at this
    cases this
  · rcases List.mem_append.1 hy with hy | hy
    · exact ⟨(h.2.1 y hy).1, by show (left _ && _) = false; rw [(h.2.1 y hy).2]; rfl⟩
    · rw [List.mem_singleton] at hy
      subst hy
      exact ⟨hx, by show (left _ && !(kl x).sameKey (kl x)) = false; rw [kl_same]; simp⟩
  · by_cases e : y = x
    · subst e
      rw [hx] at hu
      injection hu with hu
      subst hu
      exact .inr (by simp)
    · rcases h.2.2 y u hu with hh | hh
      · exact .inl (by show (left _ && !(kl y).sameKey (kl x)) = true; rw [hh, kl_same]; simp [e])
      · exact .inr (List.mem_append_left _ hh)
theorem Got.all {f : Int → Option Int} {left : Lit → Bool} {r : List E2} (h : Got f left r) (hl : ∀ k, left k = false) (x u : Int) : f x = some u ↔ (⟨x, u⟩ : E2) ∈ r :=
  ⟨fun hu => (h.2.2 x u hu).resolve_left (by rw [hl]; simp), fun hm => (h.2.1 _ hm).1⟩
theorem left_le {left : Lit → Bool} {D : DataW Unit} {kx : Lit} (h : ∀ k, left k = true → has D k = true) : ∀ k, (fun z => left z && !z.sameKey kx) k = true → has D k = true := fun k hk => h k (by simp at hk; exact hk.1)
end Go.Proofs.Ytajllccgfhminaa.mw
/- The program's map of writes: writeSetOf, its entries in rising order (writeSet.sorted): what each answers. -/
namespace Go.Proofs.Ytajllccgfhminaa.ms
open Go.ChangeShapes Go.WideShapes Go.ChangeAt Go.RowKit
open Go.Proofs.Ytajllccgfhminaa.el2 Go.Proofs.Ytajllccgfhminaa.fr Go.Proofs.Ytajllccgfhminaa.ow2 Go.Proofs.Ytajllccgfhminaa.ap Go.Proofs.Ytajllccgfhminaa.mw
open Go.Maps (Keyed int_keyed keyOf_int_mk)
set_option linter.unusedVariables false
set_option linter.unusedSimpArgs false
theorem law_i : Keyed Try.prog 3 := int_keyed Try.underlying3
theorem run_makeMap_hint {P : Program} (t k e : TypeId) (ht : P.underlying t = some (.map k e)) (x : Int) (w : World) (h0 : 0 ≤ x) (h1 : x ≤ 4611686018427387904) : (Instr.makeMap t (some (.int .i64 x))).run P w = .ok (.map (some w.heap.size)) (w.alloc (.map #[] 0)) := by
  have wx : IntKind.i64.wrap x = x := by rw [IntKind.wrap_i64]; omega
  have n1 : ¬ x < 0 := by omega
  simp [Instr.makeMap, run_underlying ht, asInt, asIntOf, wx, n1]
/-! the sort -/
def encW (x : E2) : List Value := [.int .i64 x.a, .int .i64 x.b]
def cfW (x y : E2) : Int := Go.Proofs.Ytajllccgfhminaa.cm.cmpI x.a y.a
theorem lt_cf (x y : E2) : ltOf cfW x y = decide (x.a < y.a) := by
  unfold ltOf cfW
  rcases Go.Proofs.Ytajllccgfhminaa.cm.cmpI_cases x.a y.a with ⟨h, e⟩ | ⟨h, e⟩ | ⟨h, e⟩
  · rw [e]; simp [h]
  · rw [e]; simp [h]
  · rw [e]; simp; omega
theorem swo_cf : Go.Sort.SWO (ltOf cfW) where
  irrefl x := by rw [lt_cf]; simp
  trans x y z h1 h2 := by rw [lt_cf] at *; simp at *; omega
  ntrans x y z h1 h2 := by rw [lt_cf] at *; simp at *; omega
set_option maxHeartbeats 1000000 in
theorem compare_writes (x y : E2) (W : World) : Calls Try.prog 123 #[.agg #[.int .i64 x.a, .int .i64 x.b], .agg #[.int .i64 y.a, .int .i64 y.b]] W fun e w' => e = .returned (.int .i64 (cfW x y)) ∧ ∃ q os', w' = Go.Sort.grow (W.drewN q) os' := by
  have hcon := fun W' => Go.Proofs.Ytajllccgfhminaa.cm.compare_int x.a y.a W'
  unfold cfW
  generalize Go.Proofs.Ytajllccgfhminaa.cm.cmpI x.a y.a = r at hcon ⊢
  go_enter Try.func123, Try.ntmps123
  go_wp2_with (go_at_call 136; refine (hcon _).mono ?_; rintro e w' ⟨rfl, rfl⟩)
  go_ret
  exact ⟨rfl, 0, _, by rw [Go.Sort.alloc_eq_grow, Go.Sort.alloc_eq_grow, Go.Sort.grow_grow]; rfl⟩
theorem cmp_lays (blk off size : Nat) (w : World) : CmpLays Try.prog 123 #[] encW 2 cfW blk off size w := fun _ _ _ _ x y => compare_writes x y _
theorem heap_sort {w : World} {g n : Nat} {d : Array E2} {os : Array Obj} {cur : Array Value} {e : TypeId} {fr : Nat × Nat} (h : w.heap[g]? = some (.cells cur e fr)) :
    ∃ cur' : Array Value, (sortWorldK encW 2 w g 0 n d os).heap[g]? = some (.cells cur' e fr) ∧ cur'.size = cur.size := by
  have hg : g < w.heap.size := (Array.getElem?_eq_some_iff.1 h).1
  refine ⟨Go.Sort.putCells id 0 (Go.Sort.flatK encW 2 d) cur, ?_, by simp [Go.Sort.putCells]⟩
  show (w.heap.modify g (Go.Sort.onCells (Go.Sort.putCells id 0 (Go.Sort.flatK encW 2 d))) ++ os)[g]? = _
  rw [Array.getElem?_append_left (by simpa using hg), Array.getElem?_modify]
  simp [h, Go.Sort.onCells]
theorem grown_sort (w : World) (g n : Nat) (d : Array E2) (os : Array Obj) : w.grownBy (sortWorldK encW 2 w g 0 n d os) (some g) := by
  refine ⟨rfl, rfl, rfl, ?_, fun k hk hne => ?_⟩
  · show w.heap.size ≤ (w.heap.modify g _ ++ os).size
    simp
  · show (w.heap.modify g (Go.Sort.onCells (Go.Sort.putCells id 0 (Go.Sort.flatK encW 2 d))) ++ os)[k]? = _
    rw [Array.getElem?_append_left (by simpa using hk), Array.getElem?_modify, if_neg (fun e => hne (by rw [e]))]
theorem rw_of_cells {w : World} {e : TypeId} {g cap : Nat} {l : List E2} {cur : Array Value} (hg : w.heap[g]? = some (.cells cur e (0, 0))) (hs : cur.size = cap * 2) (hl : l.length ≤ cap) (hm : cap ≤ maxLen) (hc : ∀ k x, l[k]? = some x → At w g (0 + k * 2) x) : Rw w e g cap l := by
  refine ⟨cur, hg, hl, hm, hs, List.ext_getElem? fun i => ?_⟩
  by_cases hi : i < l.length * 2
  · have hf : i < (flat l).length := by rw [flat_len]; omega
    have h1 := at_cells hc i _ (List.getElem?_eq_getElem hf)
    rw [List.getElem?_eq_getElem hf, List.getElem?_take, if_pos hi, Array.getElem?_toList, ← h1, Addr.add_lit]
    simp [World.cell?, hg]
  · rw [List.getElem?_eq_none (by rw [List.length_take]; omega), List.getElem?_eq_none (by rw [flat_len]; omega)]
theorem holds_rw {w : World} {e : TypeId} {g cap : Nat} {l : List E2} (h : Rw w e g cap l) : Go.Sort.HoldsK encW 2 w g 0 l.toArray := by
  intro j hj
  have hj2 : j < l.length * 2 := by simpa using hj
  have hk : j / 2 < l.length := by omega
  obtain ⟨h0, h1⟩ := h.at_ (j / 2) _ (List.getElem?_eq_getElem hk)
  have hf := (shape_rw h).2 (0 + j)
  have hx : l.toArray[j / 2]! = l[j / 2] := by simp [hk]
  refine ⟨?_, hf⟩
  rw [Go.Sort.get_flatK encW 2 _ j (by simpa using hj2), hx]
  rcases Nat.mod_two_eq_zero_or_one j with q | q
  · rw [q, show (0 + j) = 0 + j / 2 * 2 by omega, h0]; rfl
  · rw [q, show (0 + j) = 0 + j / 2 * 2 + 1 by omega, h1]; rfl
theorem at_sort {W : World} {g : Nat} {d : Array E2} (h : Go.Sort.HoldsK encW 2 W g 0 d) : ∀ k x, d.toList[k]? = some x → At W g (0 + k * 2) x := by
  intro k x hx
  have hk : k < d.size := by have := lt_get hx; simpa using this
  have hd : d[k]! = x := by
    rw [List.getElem?_eq_getElem (by simpa using hk)] at hx
    injection hx with hx
    rw [getElem!_pos d k hk, ← hx]; simp
  have h0 := (Go.Sort.HoldsK.cell h hk (show 0 < 2 by decide)).1
  have h1 := (Go.Sort.HoldsK.cell h hk (show 1 < 2 by decide)).1
  rw [hd] at h0 h1
  exact ⟨h0, h1⟩
theorem sorted_asc {d : Array E2} {r : List E2} (hp : d.toList.Perm r) (hs : Go.Sort.SortedIn (ltOf cfW) 0 d.size d) (hn : r.Pairwise (fun x y => x.a ≠ y.a)) : Asc d.toList := by
  have h1 : d.toList.Pairwise (fun x y => x.a ≠ y.a) := (hp.pairwise_iff (fun {a b} h => Ne.symm h)).2 hn
  have h2 : d.toList.Pairwise (fun x y => x.a ≤ y.a) := by
    rw [List.pairwise_iff_getElem]
    intro i j hi hj hij
    have := hs i j (Nat.zero_le _) hij (by simpa using hj)
    rw [lt_cf, getElem!_pos d i (by simpa using hi), getElem!_pos d j (by simpa using hj)] at this
    simp at this
    simpa using this
  exact (h1.and h2).imp fun {x y} h => by have := h.1; have := h.2; omega
theorem sort_writes {w : World} {g cap : Nat} {r : List E2} (hr : Rw w 55 g cap r) (h12 : r.length ≤ 12) (hn : r.Pairwise (fun x y => x.a ≠ y.a)) :
    Calls Try.prog 122 #[.slice (some ⟨g, 0, none⟩) r.length cap, .func (.func 123) #[] #[]] w fun e w' => e = .returned (.tuple #[]) ∧ ∃ r' : List E2, r'.length = r.length ∧ r'.Perm r ∧ Asc r' ∧ Rw w' 55 g cap r' ∧ w.grownBy w' (some g) := by
  have eg : ∀ args w, (callFunc 123 args).run Try.prog w = .ok (.enter 123 args) w := enters_of Try.func123 (by kernel_rfl) rfl
  have h := Try.sortW_small encW (fun _ => rfl) (fun x v hv => by simp [encW] at hv; rcases hv with rfl | rfl <;> rfl) cfW 123 #[] swo_cf g 0 cap r.toArray w eg (cmp_lays g 0 _ w) (holds_rw hr) hr.lt (by simpa using h12)
  have e0 : r.toArray.size = r.length := by simp
  rw [e0] at h
  refine h.mono ?_
  rintro e w' ⟨he, d', n, os, hp, hs, rfl⟩
  obtain ⟨cur, h1, h2, h3, h4, h5⟩ := hr
  obtain ⟨cur', hc', hs'⟩ := heap_sort (n := n) (d := d') (os := os) h1
  have hz : d'.size = r.length := by have := hp.1; simpa using this
  have hH := holdsK_sortWorldK_c encW 2 w g 0 r.toArray d' n os (holds_rw ⟨cur, h1, h2, h3, h4, h5⟩) (Array.getElem?_eq_some_iff.1 h1).1 (by simpa using hz)
  have hpm : d'.toList.Perm r := by
    have := hp.2.2
    rw [← hz] at this
    have e2 : (r.toArray.extract 0 d'.size).toList = r := by rw [hz]; simp
    simp only [Array.extract_size] at this
    rw [e2] at this
    exact this
  refine ⟨he, d'.toList, by simpa using hz, hpm, sorted_asc hpm (by rw [hz]; simpa using hs) hn, rw_of_cells hc' (by rw [hs', h4]) (by simpa [hz] using h2) h3 (at_sort hH), grown_sort w g n d' os⟩
/-! the map -/
set_option maxRecDepth 100000 in
set_option maxHeartbeats 1600000 in
theorem impl_set {w : World} {B n c : Nat} {A : Option Addr} {Q : List E2} (hn : n ≤ 1048576) (h1 : Vs w B A n Q) (hwf : ∀ (k : Nat) (y : E2), Q[k]? = some y → (Lit.int .i64 y.a).wf = true ∧ (Lit.int .i64 y.b).wf = true) (hB : B ≤ w.heap.size) :
    Calls Try.prog 84 #[.slice A n c] w fun e w' => e = .returned (.map (some w.heap.size)) ∧ (∃ D : DataW Unit, w'.ownsMap Try.prog 3 (plainElem (H := Unit) Try.prog 3) w.heap.size n D ∧ MI D (mf Q)) ∧ Below w.heap.size w w' := by
  have H1 := Lib.hid h1
  have hln := h1.1
  have HW := Lib.hid hwf
  have hmm := fun W => run_makeMap_hint (P := Try.prog) 114 3 3 Try.underlying114 ((n : Int) + 1) W (by omega) (by omega)
  clear h1 hwf
  go_enter Try.func84, Try.ntmps84
  go_wp2_with fail
  clear hmm
  go_loopw [5, 12] (fun _ i wr => ∃ (k : Nat) (D : DataW Unit), k ≤ n ∧ i = .int .i64 k ∧ wr.ownsMap Try.prog 3 (plainElem (H := Unit) Try.prog 3) w.heap.size k D ∧ MI D (mf (Q.take k)) ∧ Below w.heap.size w wr) (fun _ i _ => n - (intOf i).toNat)
  case atStart => exact ⟨0, .map [], by omega, rfl, World.ownsMap_made _ _ _ _, by simpa [mf] using MI.empty, (Below.refl _ _).alloc (Nat.le_refl _) _⟩
  case round =>
    obtain ⟨k, D, hk, rfl, hown, hmi, hb⟩ := hrel
    have OW := Lib.hid hown
    have MW := Lib.hid hmi
    have HB := Lib.hid hb
    clear hown hmi hb
    by_cases hlt : k < n
    · obtain ⟨b, o, y, rfl, hbB, hx, a0, a1⟩ := (H1.out.below (below_le HB.out hB)).at_ hlt
      have HX := Lib.hid hx
      have hsz := HB.out.size
      obtain ⟨wa, wb⟩ := HW.out k y hx
      have hkey := keyOf_int_mk (P := Try.prog) (k := 3) Try.underlying3 wa
      clear hx
      go_wp2_with (first | (at_mapUpdate; refine wpList_mapUpdate_own _ rfl _ _ _ 114 rfl 3 3 law_i Try.underlying114 _ w.heap.size k _ rfl (OW.out.alloc _) (by unfold maxLen; omega) _ _ _ rfl rfl hkey _ [] (plainElem_int Try.underlying3 wb) ?_; intro w2 hown2 hg2; go_frame) | fail)
      have hb2 : Below w.heap.size w w2 := (HB.out.alloc hsz _).grown hg2 (by simp; omega) (fun j hj => by cases hj; exact Nat.le_refl _)
      have OW2 := Lib.hid hown2
      have MW2 : Hid (MI _ (mf (Q.take (k + 1)))) := Lib.hid (by rw [mf_step HX.out]; exact MW.out.put y.a y.b)
      clear hown2 hg2 a0 a1 hkey wa wb
      go_roundw
      case rel => exact ⟨k + 1, _, by omega, by go_num, OW2.out, MW2.out, hb2⟩
      case measure => simp [intOf]; omega
    · obtain rfl : n = k := by omega
      go_wp2_with fail
      go_ret
      exact ⟨rfl, ⟨D, OW.out, by have := MW.out; rw [List.take_of_length_le (by omega)] at this; exact this⟩, HB.out⟩
theorem own_gr {w w' : World} {base n size : Nat} {e : TypeId} {v : Value} {xs : List Value} {row : Option Nat} (h : w.ownsRow base e size v n xs) (hg : w.grownBy w' row) (hne : ∀ g, v.ownBlock = some g → some g ≠ row) : w'.ownsRow base e size v n xs :=
  ⟨h.1, by
    rcases h.2 with h0 | ⟨g, cap, cur, e1, h1, h2, h3⟩
    · exact .inl h0
    · exact .inr ⟨g, cap, cur, e1, h1, (hg.block g (Array.getElem?_eq_some_iff.1 h2).1 (hne g (by rw [e1]; rfl))).trans h2, h3⟩⟩
theorem iter_ne {w : World} {P : Program} {k e : TypeId} {R : Value → Option (DataW Unit × List MemPlace)} {b r n base m size : Nat} {D : DataW Unit} {left : Lit → Bool} {cnt : Nat} {v : Value} {xs : List Value} (h : w.ranges P k R b r n D left cnt) (ho : w.ownsRow base e size v m xs) : ∀ g, v.ownBlock = some g → g ≠ r := by
  obtain ⟨es, clock, since, seen, c0, hb, F, hs, hD, hr, rest⟩ := h
  intro g hg e1
  subst e1
  rcases ho.2 with ⟨h0, _⟩ | ⟨g', cap, cur, e2, _, h2, _⟩
  · rw [h0] at hg; simp [Value.ownBlock] at hg
  · rw [e2] at hg
    simp [Value.ownBlock] at hg
    subst hg
    rw [hr] at h2
    cases h2
set_option maxRecDepth 100000 in
set_option maxHeartbeats 3200000 in
theorem impl_sorted {w : World} {b n : Nat} {D : DataW Unit} {f : Int → Option Int} (h1 : w.ownsMap Try.prog 3 (plainElem (H := Unit) Try.prog 3) b n D) (h2 : MI D f) (hn : n ≤ 12) :
    Calls Try.prog 85 #[.map (some b)] w fun e w' => ∃ (A : Option Addr) (c : Nat) (r : List E2), e = .returned (.slice A r.length c) ∧ w'.ownsRow w.heap.size 55 2 (.slice A r.length c) r.length (flat r) ∧ Asc r ∧ (∀ x u, f x = some u ↔ (⟨x, u⟩ : E2) ∈ r) ∧ Below w.heap.size w w' := by
  have H1 := Lib.hid h1
  have H2 := Lib.hid h2
  have hbl := h1.lt
  have hsd := h1.size_le
  obtain ⟨i0, hi, hz, hs, hby⟩ := info_parts Go.Proofs.Ytajllccgfhminaa.cl.info_wr
  have HI := Lib.hid hi
  have HZ := Lib.hid hz
  have HS := Lib.hid hs
  have HBY := Lib.hid hby
  clear h1 h2 hi hz hs hby
  obtain ⟨m, hm⟩ : ∃ m, Go.Maps.size D = m := ⟨_, rfl⟩
  rw [hm] at hsd
  have HM := Lib.hid hm
  obtain ⟨W1, hmk, hE, hg⟩ := run_make_own (P := Try.prog) w w.heap.size 25 55 i0 _ 2 Try.underlying25 HI.out HZ.out HS.out .i64 .i64 m (by rw [HBY.out]; omega) (by unfold maxLen; omega) (Nat.le_refl _)
  have hb1 : Below w.heap.size w W1 := (Below.refl _ _).grown hg (Nat.le_refl _) (fun q hq => by cases hq)
  have hown1 := H1.out.kept hg (by simp)
  have E1 := Lib.hid hE
  have HB1 := Lib.hid hb1
  have O1 := Lib.hid hown1
  clear hE hg hb1 hown1 hm
  go_enter Try.func85, Try.ntmps85
  go_wp2_with (first
    | (at_len; refine wpList_len_own _ rfl _ 114 rfl 3 3 Try.underlying114 _ b n D rfl H1.out ?_; rw [HM.out])
    | (at_range; refine wpList_range_own _ rfl _ 114 rfl 3 3 law_i Try.underlying114 _ b n _ rfl O1.out ?_; intro w0 hrg0 hg0 hs0)
    | fail)
  go_frame
  have R0 := Lib.hid hrg0
  have E0 : Hid (w0.ownsRow w.heap.size 55 2 (.slice (some ⟨w.heap.size, 0, none⟩) 0 m) 0 (flat [])) := Lib.hid (own_gr E1.out hg0 (fun g _ => by simp))
  have B0 : Hid (Below w.heap.size w w0) := Lib.hid (HB1.out.grown hg0 HB1.out.size (fun j hj => by cases hj))
  have hmn : Go.Maps.size D ≤ n := by rw [HM.out]; exact hsd
  clear hmk hrg0 hg0 hs0
  go_loopw [3, 4, 5] (fun v _ _ wr => ∃ (left : Lit → Bool) (cnt : Nat) (r : List E2) (g c' : Nat), v = .slice (some ⟨g, 0, none⟩) r.length c' ∧ wr.ranges Try.prog 3 (plainElem (H := Unit) Try.prog 3) b W1.heap.size n D left cnt ∧ (∀ k, left k = true → Go.Maps.has D k = true) ∧ Got f left r ∧ r.length + cnt ≤ n ∧ wr.ownsRow w.heap.size 55 2 (.slice (some ⟨g, 0, none⟩) r.length c') r.length (flat r) ∧ Below w.heap.size w wr) (fun _ _ _ wr => wr.rangeLeft b W1.heap.size)
  case atStart => exact ⟨_, _, [], w.heap.size, m, rfl, R0.out, fun k h => h, Got.start H2.out, by simp; exact hmn, E0.out, B0.out⟩
  case round =>
    obtain ⟨left, cnt, r, g, c', rfl, hrg, hle, hgot, hcn, hO, hb⟩ := hrel
    have HR := Lib.hid hrg
    have HLE := Lib.hid hle
    have HG := Lib.hid hgot
    have OW := Lib.hid hO
    have HB := Lib.hid hb
    have hsz := hb.size
    clear hrg hle hgot hO hb
    go_wp2_with (first | (at_next; refine wpList_next_ranges_ii _ rfl _ rfl 3 3 .i64 .i64 law_i Try.underlying3 Try.underlying3 b W1.heap.size n _ _ _ rfl HR.out ?_ ?_) | fail)
    · intro hc0 hl0
      have HL0 := Lib.hid hl0
      clear hl0
      obtain ⟨hl, ⟨e1, _⟩ | ⟨g', cap, e1, hgb, hrw⟩⟩ := own_rw OW.out
      · injection e1 with e1; cases e1
      injection e1 with e1 e2 e3
      injection e1 with e1
      injection e1 with e1
      subst e1 e3
      go_wp2_with fail
      have hsort := sort_writes hrw (by omega) HG.out.1
      refine hsort.mono ?_
      rintro e W5 ⟨rfl, r', hl', hp', ha', hr', hg'⟩
      have HB5 : Hid (Below w.heap.size w W5) := Lib.hid (HB.out.grown hg' hsz (fun j hj => by cases hj; exact hgb))
      have HO5 := Lib.hid (hr'.own hgb)
      have HA := Lib.hid ha'
      have HALL : Hid (∀ x u, f x = some u ↔ (⟨x, u⟩ : E2) ∈ r') := Lib.hid fun x u => (HG.out.all HL0.out x u).trans hp'.mem_iff.symm
      clear hsort hp' ha' hr' hg'
      go_wp2_with fail
      go_ret
      rw [← hl']
      exact ⟨_, _, r', rfl, HO5.out, HA.out, HALL.out, HB5.out⟩
    · intro x c w1 cnt1 hwx hwc hlx hat hrg1 hlt hg1 hs1 hen
      have hO1 := own_gr OW.out hg1 (fun j hj => by
        have h1 := iter_ne HR.out OW.out j hj
        intro e; injection e with e; exact h1 e)
      have hb1 := HB.out.grown hg1 hsz (fun j hj => by cases hj; exact HB1.out.size)
      have hgt := HG.out.step H2.out hlx HLE.out hat
      have hO2 := own_keep hO1 (new1 w1 (.cells #[.int .i64 x, .int .i64 c] 55))
      have hone : Vs (w1.alloc (.cells #[.int .i64 x, .int .i64 c] 55)) (w1.heap.size + 1) (some ⟨w1.heap.size, 0, none⟩) 1 [⟨x, c⟩] := Go.Proofs.Ytajllccgfhminaa.ao.one_vs (boxed w1 ⟨x, c⟩ 55)
      obtain ⟨v', w4, hr, ho4, hg4⟩ := run_append_e2 (P := Try.prog) (w1.alloc (.cells #[.int .i64 x, .int .i64 c] 55)) 25 25 55 i0 _ Try.underlying25 HI.out HZ.out HS.out HBY.out rfl hO2 hone (c := 1) (by omega) (by have := hb1.size; simp; omega)
      have hgb : w.heap.size ≤ g := (hO2.lt g rfl).1
      have hgr : g ≠ W1.heap.size := iter_ne HR.out OW.out g rfl
      have hrg4 := (hrg1.alloc (.cells #[.int .i64 x, .int .i64 c] 55)).kept hg4 (fun e => by have e' : b = g := (by simpa [Value.ownBlock] using e); omega) (fun e => by have e' : W1.heap.size = g := (by simpa [Value.ownBlock] using e); exact hgr e'.symm)
      have hb4 : Below w.heap.size w w4 := (hb1.alloc hb1.size _).grown hg4 (by have := hb1.size; simp; omega) (fun j hj => by cases hj; exact hgb)
      obtain ⟨hl4, ⟨e1, e2⟩ | ⟨g5, c5, rfl, hgb5, hrw5⟩⟩ := own_rw ho4
      · simp at e2
      have HR4 := Lib.hid hrg4
      have HB4 := Lib.hid hb4
      have HO4 := Lib.hid ho4
      have HGT := Lib.hid hgt
      have HLT := Lib.hid hlt
      have HLE4 : Hid (∀ k, (fun z => left z && !z.sameKey (kl x)) k = true → Go.Maps.has D k = true) := Lib.hid (left_le HLE.out)
      clear hO1 hb1 hgt hO2 hone hrg1 hg1 hs1 hlx hat ho4 hg4 hrg4 hb4 hlt hrw5
      go_wp2_with (first | (at_builtin; refine Lib.wpList_append_run _ rfl _ _ 25 25 rfl _ _ rfl rfl _ _ hr ?_) | fail)
      clear hen hr
      go_roundw
      case rel => exact ⟨_, cnt1, r ++ [⟨x, c⟩], g5, c5, by rw [List.length_append]; rfl, HR4.out, HLE4.out, HGT.out, by have := HLT.out; rw [List.length_append]; simp; omega, by rw [List.length_append]; exact HO4.out, HB4.out⟩
      case measure => rw [HR4.out.left_eq, HR.out.left_eq]; exact HLT.out
end Go.Proofs.Ytajllccgfhminaa.ms
/- TrackWrite of the program and of the model: what each answers, in memory of its own. -/
namespace Go.Proofs.Ytajllccgfhminaa.tw
open Go.ChangeShapes Go.WideShapes Go.ChangeAt Go.RowKit
open Go.Proofs.Ytajllccgfhminaa.el2 Go.Proofs.Ytajllccgfhminaa.tx Go.Proofs.Ytajllccgfhminaa.seq Go.Proofs.Ytajllccgfhminaa.tv Go.Proofs.Ytajllccgfhminaa.tf Go.Proofs.Ytajllccgfhminaa.ap Go.Proofs.Ytajllccgfhminaa.bx Go.Proofs.Ytajllccgfhminaa.cl Go.Proofs.Ytajllccgfhminaa.lc Go.Proofs.Ytajllccgfhminaa.ad Go.Proofs.Ytajllccgfhminaa.tk Go.Proofs.Ytajllccgfhminaa.sf Go.Proofs.Ytajllccgfhminaa.pw Go.Proofs.Ytajllccgfhminaa.mw Go.Proofs.Ytajllccgfhminaa.rl
open Go.Proofs.Ytajllccgfhminaa.vers (new2 new3 In)
open Go.Proofs.Ytajllccgfhminaa.sl (Ver)
open Go.Proofs.Ytajllccgfhminaa.st (Rs)
open Go.Proofs.Ytajllccgfhminaa.val (stB)
open Go.Proofs.Ytajllccgfhminaa.rd (rlB rlV)
set_option linter.unusedVariables false
set_option linter.unusedSimpArgs false
noncomputable def twB (C : List (List Ver)) (x : Hd) (R S : List E2) (k v : Int) : Bool := rlB C k && actB x R S && In (-1) 99 v
noncomputable def twX (C : List (List Ver)) (x : Hd) (R S : List E2) (k v : Int) : Hd := if twB C x R S k v = true then { x with l := max x.l (rlV C k).d } else x
noncomputable def twS (C : List (List Ver)) (x : Hd) (R S : List E2) (k v : Int) : List E2 := if twB C x R S k v = true then insW ⟨k, v⟩ S else S
/-- what TrackWrite hands back -/
def TwO (C : List (List Ver)) (x : Hd) (n : Nat) (R S : List E2) (k v : Int) (w : World) (e : Ending) (w' : World) : Prop :=
  ∃ A' c' A2' c2', e = .returned (.tuple #[txv (twX C x R S k v) (.slice A' n c') (.slice A2' (twS C x R S k v).length c2'), .bool (twB C x R S k v)]) ∧ OwnT w' w.heap.size (.slice A' n c') n R (.slice A2' (twS C x R S k v).length c2') (twS C x R S k v).length (twS C x R S k v) ∧ Below w.heap.size w w'
section
variable {C : List (List Ver)} {x : Hd} {R S : List E2} {k v : Int}
theorem tw_yes (h : twB C x R S k v = true) : twX C x R S k v = { x with l := max x.l (rlV C k).d } ∧ twS C x R S k v = insW ⟨k, v⟩ S := ⟨if_pos h, if_pos h⟩
theorem tw_no (h : twB C x R S k v = false) : twX C x R S k v = x ∧ twS C x R S k v = S := ⟨if_neg (by simp [h]), if_neg (by simp [h])⟩
theorem tw_r (h : rlB C k = false) : twB C x R S k v = false := by simp [twB, h]
theorem tw_a (h : actB x R S = false) : twB C x R S k v = false := by simp [twB, h]
theorem tw_v (h : In (-1) 99 v = false) : twB C x R S k v = false := by simp [twB, h]
theorem tw_s (h : stB C = false) : twB C x R S k v = false := by simp [twB, rlB, h]
theorem tw_t (h : txB x R S = false) : twB C x R S k v = false := by simp [twB, actB, h]
theorem tw_n (h : x.t ≠ 1) : twB C x R S k v = false := by simp [twB, actB, h]
theorem tw_k (h : In 0 5 k = false) : twB C x R S k v = false := by simp [twB, rlB, h]
theorem tw_y (h : rlB C k = true) (h1 : actB x R S = true) (h2 : In (-1) 99 v = true) : twB C x R S k v = true := by simp [twB, h, h1, h2]
theorem tw_y2 (hs : stB C = true) (ht : txB x R S = true) (h1 : x.t = 1) (hk : In 0 5 k = true) (h2 : In (-1) 99 v = true) : twB C x R S k v = true := by simp [twB, rlB, actB, hs, ht, h1, hk, h2]
theorem rl_y (hs : stB C = true) (hk : In 0 5 k = true) : rlB C k = true := by simp [rlB, hs, hk]
theorem act_tx (h : actB x R S = true) : txB x R S = true := by simp only [actB, Bool.and_eq_true] at h; exact h.1
theorem in_lo {a b z : Int} (h : In a b z = true) : a ≤ z ∧ z ≤ b := by simpa [In] using h
theorem okW_in {m : E2} (h : okW m = true) : 0 ≤ m.a ∧ m.a ≤ 5 ∧ -1 ≤ m.b ∧ m.b ≤ 99 := by
  simp only [okW, Bool.and_eq_true] at h
  have h1 := in_lo h.1
  have h2 := in_lo h.2
  omega
theorem tx_in (h : txB x R S = true) {j : Nat} {m : E2} (hm : S[j]? = some m) : 0 ≤ m.a ∧ m.a ≤ 5 ∧ -1 ≤ m.b ∧ m.b ≤ 99 := okW_in ((sq_of (tx_wr h)).1 j m hm)
theorem asc_adj : ∀ {l : List E2}, (∀ (j : Nat) (a b : E2), l[j]? = some a → l[j + 1]? = some b → a.a < b.a) → Asc l
  | [], _ => List.Pairwise.nil
  | [a], _ => List.pairwise_singleton _ _
  | a :: b :: r, h => by
    have ih : Asc (b :: r) := asc_adj fun j p q hp hq => h (j + 1) p q (by simpa using hp) (by simpa using hq)
    have hab := h 0 a b (by simp) (by simp)
    refine List.pairwise_cons.2 ⟨fun z hz => ?_, ih⟩
    rcases List.mem_cons.1 hz with e | hz
    · subst e; exact hab
    · have := (List.pairwise_cons.1 ih).1 z hz; omega
theorem tx_asc (h : txB x R S = true) : Asc S := asc_adj fun j a b ha hb => by
  have := (sq_of (tx_wr h)).2 j a b ha hb
  simpa [folW] using this
theorem asc_len : ∀ (l : List E2) (lo : Int), Asc l → (∀ m ∈ l, lo ≤ m.a ∧ m.a ≤ 5) → (l.length : Int) ≤ max 0 (6 - lo)
  | [], lo, _, _ => by simp; omega
  | a :: r, lo, ha, hm => by
    obtain ⟨h1, h2⟩ := List.pairwise_cons.1 ha
    have hl := hm a (by simp)
    have ih := asc_len r (a.a + 1) h2 fun m hmr => by have := h1 m hmr; have := hm m (List.mem_cons_of_mem _ hmr); omega
    simp only [List.length_cons]
    omega
theorem tx_six (h : txB x R S = true) : S.length ≤ 6 := by
  have := asc_len S 0 (tx_asc h) fun m hm => by
    obtain ⟨j, hj, e⟩ := List.getElem_of_mem hm
    have := tx_in h (j := j) (m := m) (by rw [List.getElem?_eq_getElem hj, e])
    omega
  omega
end
/-- the boxes of a store, of a transaction and of the result -/
structure LZ (w : World) (sv : Value) (x : Hd) (u1 u2 : Value) (W : World) : Prop where
  bel : Below w.heap.size w W
  size : w.heap.size + 3 ≤ W.heap.size
  st : W.cell? ⟨w.heap.size, 0, none⟩ = some sv
  tb : TB W (w.heap.size + 1) x u1 u2
  rb : Bx W (w.heap.size + 2) ⟨0, 0, 0, 0, 0, 0, 0⟩ (.slice none 0 0) (.slice none 0 0)
theorem LZ.keep {w W W' : World} {x : Hd} {u1 u2 sv : Value} (h : LZ w sv x u1 u2 W) (hb : Below (w.heap.size + 3) W W') : LZ w sv x u1 u2 W' :=
  ⟨h.bel.trans (hb.mono (by omega)), Nat.le_trans h.size hb.size, (hb.cell (p := ⟨w.heap.size, 0, none⟩) (by simp only; omega)).trans h.st, h.tb.keep (by omega) hb, h.rb.keep hb (by omega)⟩
theorem LZ.call {w W W' : World} {x : Hd} {u1 u2 sv : Value} (h : LZ w sv x u1 u2 W) (hb : Below W.heap.size W W') : LZ w sv x u1 u2 W' := h.keep (below_le hb h.size)
theorem LZ.mk3 (w : World) (x : Hd) (A A2 D : Option Addr) (n c n2 c2 N cN : Nat) : LZ w (.slice D N cN) x (.slice A n c) (.slice A2 n2 c2) (((w.alloc (.cells #[.slice D N cN] 40)).alloc (.cells #[.int .i64 x.i, .int .i64 x.s, .int .i64 x.t, .int .i64 x.b, .int .i64 x.l, .int .i64 x.h, .int .i64 x.c, .slice A n c, .slice A2 n2 c2] 27)).alloc (.cells #[.int .i64 0, .int .i64 0, .int .i64 0, .int .i64 0, .int .i64 0, .int .i64 0, .int .i64 0, .slice none 0 0, .slice none 0 0] 27)) where
  bel := new3 _ _ _ _
  size := by simp
  st := by
    have h := st.up (.cells #[.int .i64 x.i, .int .i64 x.s, .int .i64 x.t, .int .i64 x.b, .int .i64 x.l, .int .i64 x.h, .int .i64 x.c, .slice A n c, .slice A2 n2 c2] 27) (st.one_cell w (.slice D N cN) 40) (by simp)
    exact st.up _ h (by simp; omega)
  tb := by
    have h := (TB.new (w.alloc (.cells #[.slice D N cN] 40)) x A n c A2 n2 c2 27).keep (B := w.heap.size + 2) (by simp) (below_le (new1 ((w.alloc (.cells #[.slice D N cN] 40)).alloc (.cells #[.int .i64 x.i, .int .i64 x.s, .int .i64 x.t, .int .i64 x.b, .int .i64 x.l, .int .i64 x.h, .int .i64 x.c, .slice A n c, .slice A2 n2 c2] 27)) (.cells #[.int .i64 0, .int .i64 0, .int .i64 0, .int .i64 0, .int .i64 0, .int .i64 0, .int .i64 0, .slice none 0 0, .slice none 0 0] 27)) (by simp))
    simpa using h
  rb := by
    have h := Bx.zero ((w.alloc (.cells #[.slice D N cN] 40)).alloc (.cells #[.int .i64 x.i, .int .i64 x.s, .int .i64 x.t, .int .i64 x.b, .int .i64 x.l, .int .i64 x.h, .int .i64 x.c, .slice A n c, .slice A2 n2 c2] 27))
    rw [show ((w.alloc (.cells #[.slice D N cN] 40)).alloc (.cells #[.int .i64 x.i, .int .i64 x.s, .int .i64 x.t, .int .i64 x.b, .int .i64 x.l, .int .i64 x.h, .int .i64 x.c, .slice A n c, .slice A2 n2 c2] 27)).heap.size = w.heap.size + 2 by simp] at h
    exact h
set_option maxRecDepth 100000 in
set_option maxHeartbeats 6400000 in
theorem impl_tw {w : World} {B n c n2 c2 N cN : Nat} {A A2 D : Option Addr} {R S : List E2} {C : List (List Ver)} (x : Hd) (k v : Int) (hn : n ≤ 1048576) (hn2 : n2 ≤ 1048576) (hN : N ≤ 1048576) (h1 : Vs w B A n R) (h2 : Vs w B A2 n2 S) (h3 : Rs w B D N C) (hB : B ≤ w.heap.size) :
    Calls Try.prog 24 #[.agg #[.slice D N cN], .agg #[.int .i64 x.i, .int .i64 x.s, .int .i64 x.t, .int .i64 x.b, .int .i64 x.l, .int .i64 x.h, .int .i64 x.c, .slice A n c, .slice A2 n2 c2], .int .i64 k, .int .i64 v] w (TwO C x n R S k v w) := by
  have H1 := Lib.hid h1
  have H2 := Lib.hid h2
  have H3 := Lib.hid h3
  have hln := h1.1
  have hln2 := h2.1
  clear h1 h2 h3
  go_enter Try.func24, Try.ntmps24
  go_wp2_with fail
  have hL := LZ.mk3 w x A A2 D n c n2 c2 N cN
  generalize ((w.alloc _).alloc _).alloc _ = W0 at hL ⊢
  have L0 := Lib.hid hL
  have hz0 := hL.size
  obtain ⟨t0, t1, t2, t3, t4, t5, t6, t7, t8⟩ := hL.tb
  clear hL
  try go_wp2_with fail
  refine (copy_t x (by omega) (by omega) (H1.out.below (below_le L0.out.bel hB)) (H2.out.below (below_le L0.out.bel hB)) (by omega)).mono ?_
  rintro e W1 ⟨u, u2, rfl, ho, hb⟩
  obtain ⟨A', c', rfl, _⟩ := own_vs ho.1 hln
  obtain ⟨A2', c2', rfl, _⟩ := own_vs ho.2 hln2
  have L1 := Lib.hid (L0.out.call hb)
  have O1 := Lib.hid (ho.more hz0)
  have hz1 := hb.size
  clear ho hb t0 t1 t2 t3 t4 t5 t6 t7 t8
  obtain ⟨t0, t1, t2, t3, t4, t5, t6, t7, t8⟩ := L1.out.tb
  have c0 := L1.out.st
  have hlt0 : w.heap.size < W1.heap.size := by omega
  have hlt1 : w.heap.size + 1 < W1.heap.size := by omega
  go_wp2_with fail
  have bo2 : Bo (W1.alloc (.cells #[.int .i64 x.i, .int .i64 x.s, .int .i64 x.t, .int .i64 x.b, .int .i64 x.l, .int .i64 x.h, .int .i64 x.c, (.slice A' n c'), (.slice A2' n2 c2')] 27)) (w.heap.size + 3) W1.heap.size x A' n c' R A2' n2 c2' S := ⟨Bx.new W1 x _ _, O1.out.keep (new1 W1 _), by omega⟩
  have l2 := L1.out.call (new1 W1 (.cells #[.int .i64 x.i, .int .i64 x.s, .int .i64 x.t, .int .i64 x.b, .int .i64 x.l, .int .i64 x.h, .int .i64 x.c, (.slice A' n c'), (.slice A2' n2 c2')] 27))
  generalize htb : W1.heap.size = tb at bo2 ⊢
  generalize W1.alloc _ = W2 at bo2 l2 ⊢
  have L2 := Lib.hid l2
  have hz2 := l2.size
  have BO2 := Lib.hid bo2
  have htw : w.heap.size + 3 ≤ tb := by omega
  clear bo2 l2 t0 t1 t2 t3 t4 t5 t6 t7 t8 c0 hlt0 hlt1 hz1 htb
  have c0 := L2.out.st
  try go_wp2_with fail
  obtain ⟨z, hz⟩ : ∃ z, rlV C k = z := ⟨_, rfl⟩
  obtain ⟨q, hq⟩ : ∃ q, rlB C k = q := ⟨_, rfl⟩
  refine (Go.Proofs.Ytajllccgfhminaa.rd.impl_latest k hz hq (by omega) (H3.out.below (below_le L2.out.bel hB)) (by omega)).mono ?_
  rintro e W3 ⟨rfl, hb⟩
  have L3 := Lib.hid (L2.out.call hb)
  have BO3 := Lib.hid (BO2.out.keep hb)
  have hz3 := hb.size
  clear hb
  clear c0
  cases q
  · have HQ : Hid (twB C x R S k v = false) := Lib.hid (tw_r hq)
    clear hq
    have HZ := Lib.hid hz
    have hnv := new1 W3 (.cells #[.int .i64 z.a, .int .i64 z.b, .int .i64 z.c, .int .i64 z.d, .int .i64 z.e] 29)
    have vb := Go.Proofs.Ytajllccgfhminaa.ch.boxed W3 z 29
    have l3 := L3.out.call hnv
    have bo3 := BO3.out.keep hnv
    have hlt3 : W3.heap.size < (W3.alloc (.cells #[.int .i64 z.a, .int .i64 z.b, .int .i64 z.c, .int .i64 z.d, .int .i64 z.e] 29)).heap.size := by simp
    clear hz hnv
    have L4 := Lib.hid l3
    have BO4 := Lib.hid bo3
    have hz4 := l3.size
    clear l3 bo3 vb
    have HE := Lib.hid (tw_no HQ.out)
    obtain ⟨t0, t1, t2, t3, t4, t5, t6, t7, t8⟩ := BO4.out.bx.tb
    obtain ⟨z0, z1, z2, z3, z4, z5, z6, z7, z8⟩ := L4.out.rb.tb
    have y0 := L4.out.rb.fz 0
    have y1 := L4.out.rb.fz 1
    have y2 := L4.out.rb.fz 2
    have y3 := L4.out.rb.fz 3
    have y4 := L4.out.rb.fz 4
    have y5 := L4.out.rb.fz 5
    have y6 := L4.out.rb.fz 6
    have y7 := L4.out.rb.fz 7
    have y8 := L4.out.rb.fz 8
    go_wp2_with fail
    obtain ⟨hT, hO, hB9⟩ := give_back (w := w) (x := x) L4.out.rb BO4.out.own (by omega) (by omega) L4.out.bel (by omega)
    clear t0 t1 t2 t3 t4 t5 t6 t7 t8 z0 z1 z2 z3 z4 z5 z6 z7 z8 y0 y1 y2 y3 y4 y5 y6 y7 y8
    generalize (((((((((World.setCell _ _ _).setCell _ _).setCell _ _).setCell _ _).setCell _ _).setCell _ _).setCell _ _).setCell _ _).setCell _ _) = W9 at hT hO hB9 ⊢
    obtain ⟨e0, e1, e2, e3, e4, e5, e6, e7, e8⟩ := hT
    refine bodyPost_ret (v := .tuple #[txv x (.slice A' n c') (.slice A2' n2 c2'), .bool false]) (by simp [results, Try.results24, go_sem, e0, e1, e2, e3, e4, e5, e6, e7, e8]) rfl ?_
    unfold TwO
    rw [HE.out.1, HE.out.2, HQ.out, hln2]
    exact ⟨_, _, _, _, rfl, hO, hB9⟩
  have HR := Lib.hid hq
  clear hq
  have HZ := Lib.hid hz
  have hnv := new1 W3 (.cells #[.int .i64 z.a, .int .i64 z.b, .int .i64 z.c, .int .i64 z.d, .int .i64 z.e] 29)
  have vb := Go.Proofs.Ytajllccgfhminaa.ch.boxed W3 z 29
  have l3 := L3.out.call hnv
  have bo3 := BO3.out.keep hnv
  have hlt3 : W3.heap.size < (W3.alloc (.cells #[.int .i64 z.a, .int .i64 z.b, .int .i64 z.c, .int .i64 z.d, .int .i64 z.e] 29)).heap.size := by simp
  obtain ⟨t0, t1, t2, t3, t4, t5, t6, t7, t8⟩ := l3.tb
  clear hz hnv
  go_wp2_with fail
  generalize hqv : W3.heap.size = qv at vb hlt3 t0 t1 t2 t3 t4 t5 t6 t7 t8 ⊢
  have htq : tb < qv := by have := BO3.out.lt; omega
  generalize W3.alloc _ = W4 at vb l3 bo3 hlt3 t0 t1 t2 t3 t4 t5 t6 t7 t8 ⊢
  have L4 := Lib.hid l3
  have BO4 := Lib.hid bo3
  have VB4 := Lib.hid vb
  have hz4 := l3.size
  clear l3 bo3 vb
  try go_wp2_with fail
  refine (impl_active x (by omega) (by omega) (H1.out.below (below_le L4.out.bel hB)) (H2.out.below (below_le L4.out.bel hB)) (by omega)).mono ?_
  rintro e W5 ⟨rfl, hb⟩
  have L5 := Lib.hid (L4.out.call hb)
  have BO5 := Lib.hid (BO4.out.keep hb)
  have hz5 := hb.size
  have VB5 := Lib.hid (VB4.out.keep hlt3 hb)
  clear hb
  clear t0 t1 t2 t3 t4 t5 t6 t7 t8
  rcases hq : actB x R S with _ | _
  · have HQ : Hid (twB C x R S k v = false) := Lib.hid (tw_a hq)
    clear hq
    have HE := Lib.hid (tw_no HQ.out)
    obtain ⟨t0, t1, t2, t3, t4, t5, t6, t7, t8⟩ := BO5.out.bx.tb
    obtain ⟨z0, z1, z2, z3, z4, z5, z6, z7, z8⟩ := L5.out.rb.tb
    have y0 := L5.out.rb.fz 0
    have y1 := L5.out.rb.fz 1
    have y2 := L5.out.rb.fz 2
    have y3 := L5.out.rb.fz 3
    have y4 := L5.out.rb.fz 4
    have y5 := L5.out.rb.fz 5
    have y6 := L5.out.rb.fz 6
    have y7 := L5.out.rb.fz 7
    have y8 := L5.out.rb.fz 8
    go_wp2_with fail
    obtain ⟨hT, hO, hB9⟩ := give_back (w := w) (x := x) L5.out.rb BO5.out.own (by omega) (by omega) L5.out.bel (by omega)
    clear t0 t1 t2 t3 t4 t5 t6 t7 t8 z0 z1 z2 z3 z4 z5 z6 z7 z8 y0 y1 y2 y3 y4 y5 y6 y7 y8
    generalize (((((((((World.setCell _ _ _).setCell _ _).setCell _ _).setCell _ _).setCell _ _).setCell _ _).setCell _ _).setCell _ _).setCell _ _) = W9 at hT hO hB9 ⊢
    obtain ⟨e0, e1, e2, e3, e4, e5, e6, e7, e8⟩ := hT
    refine bodyPost_ret (v := .tuple #[txv x (.slice A' n c') (.slice A2' n2 c2'), .bool false]) (by simp [results, Try.results24, go_sem, e0, e1, e2, e3, e4, e5, e6, e7, e8]) rfl ?_
    unfold TwO
    rw [HE.out.1, HE.out.2, HQ.out, hln2]
    exact ⟨_, _, _, _, rfl, hO, hB9⟩
  have HA := Lib.hid hq
  clear hq
  go_wp2_with fail
  refine (Go.Proofs.Ytajllccgfhminaa.vers.value_range v _).mono ?_
  rintro e W6 ⟨rfl, rfl⟩
  rcases hq : In (-1) 99 v with _ | _
  · have HQ : Hid (twB C x R S k v = false) := Lib.hid (tw_v hq)
    clear hq
    have HE := Lib.hid (tw_no HQ.out)
    obtain ⟨t0, t1, t2, t3, t4, t5, t6, t7, t8⟩ := BO5.out.bx.tb
    obtain ⟨z0, z1, z2, z3, z4, z5, z6, z7, z8⟩ := L5.out.rb.tb
    have y0 := L5.out.rb.fz 0
    have y1 := L5.out.rb.fz 1
    have y2 := L5.out.rb.fz 2
    have y3 := L5.out.rb.fz 3
    have y4 := L5.out.rb.fz 4
    have y5 := L5.out.rb.fz 5
    have y6 := L5.out.rb.fz 6
    have y7 := L5.out.rb.fz 7
    have y8 := L5.out.rb.fz 8
    go_wp2_with fail
    obtain ⟨hT, hO, hB9⟩ := give_back (w := w) (x := x) L5.out.rb BO5.out.own (by omega) (by omega) L5.out.bel (by omega)
    clear t0 t1 t2 t3 t4 t5 t6 t7 t8 z0 z1 z2 z3 z4 z5 z6 z7 z8 y0 y1 y2 y3 y4 y5 y6 y7 y8
    generalize (((((((((World.setCell _ _ _).setCell _ _).setCell _ _).setCell _ _).setCell _ _).setCell _ _).setCell _ _).setCell _ _).setCell _ _) = W9 at hT hO hB9 ⊢
    obtain ⟨e0, e1, e2, e3, e4, e5, e6, e7, e8⟩ := hT
    refine bodyPost_ret (v := .tuple #[txv x (.slice A' n c') (.slice A2' n2 c2'), .bool false]) (by simp [results, Try.results24, go_sem, e0, e1, e2, e3, e4, e5, e6, e7, e8]) rfl ?_
    unfold TwO
    rw [HE.out.1, HE.out.2, HQ.out, hln2]
    exact ⟨_, _, _, _, rfl, hO, hB9⟩
  have HV := Lib.hid hq
  clear hq
  have HQ : Hid (twB C x R S k v = true) := Lib.hid (tw_y HR.out HA.out HV.out)
  have HE := Lib.hid (tw_yes HQ.out)
  have htx := act_tx HA.out
  have hs6 := tx_six htx
  have HASC := Lib.hid (tx_asc htx)
  have hkk : 0 ≤ k ∧ k ≤ 5 := by
    have := HR.out
    simp only [rlB, Bool.and_eq_true] at this
    exact in_lo this.2
  have hvv : -1 ≤ v ∧ v ≤ 99 := in_lo HV.out
  have HIN : Hid (∀ (j : Nat) (y : E2), S[j]? = some y → (Lit.int .i64 y.a).wf = true ∧ (Lit.int .i64 y.b).wf = true) := Lib.hid fun j y hy => by
    have h := tx_in htx hy
    exact ⟨WalkArith.wf_i64 (by omega), WalkArith.wf_i64 (by omega)⟩
  have wk : (Lit.int .i64 k).wf = true := WalkArith.wf_i64 (by omega)
  have wv : (Lit.int .i64 v).wf = true := WalkArith.wf_i64 (by omega)
  obtain ⟨t0, t1, t2, t3, t4, t5, t6, t7, t8⟩ := L5.out.tb
  clear htx t0 t1 t2 t3 t4 t5 t6 t7
  go_wp2_with fail
  refine (Go.Proofs.Ytajllccgfhminaa.ms.impl_set (by omega) (H2.out.below (below_le L5.out.bel hB)) HIN.out (by omega)).mono ?_
  rintro e W6 ⟨rfl, ⟨D6, hown6, hmi6⟩, hb6⟩
  have hkey := Go.Maps.keyOf_int_mk (P := Try.prog) (k := 3) Try.underlying3 wk
  clear t8
  go_wp2_with (first | (at_mapUpdate; refine wpList_mapUpdate_own _ rfl _ _ _ 114 rfl 3 3 Go.Proofs.Ytajllccgfhminaa.ms.law_i Try.underlying114 _ W5.heap.size n2 _ rfl hown6 (by unfold maxLen; omega) _ _ _ rfl rfl hkey _ [] (plainElem_int Try.underlying3 wv) ?_; intro w7 hown7 hg7) | fail)
  have hb7 : Below W5.heap.size W5 w7 := hb6.grown hg7 hb6.size (fun j hj => by cases hj; exact Nat.le_refl _)
  have OM := Lib.hid hown7
  have MI7 := Lib.hid (hmi6.put k v)
  have L7 := Lib.hid (L5.out.call hb7)
  have BO7 := Lib.hid (BO5.out.keep hb7)
  have VB7 := Lib.hid (VB5.out.keep (B := W5.heap.size) (by omega) hb7)
  have hz7 := hb7.size
  clear hown6 hmi6 hown7 hg7 hb6 hb7 hkey
  try go_wp2_with fail
  refine (Go.Proofs.Ytajllccgfhminaa.ms.impl_sorted OM.out MI7.out (by omega)).mono ?_
  rintro e W8 ⟨A8, c8, r8, rfl, ho8, ha8, hf8, hb8⟩
  obtain rfl : r8 = insW ⟨k, v⟩ S := asc_insW HASC.out ha8 hf8
  have L8 := Lib.hid (L7.out.call hb8)
  obtain ⟨hx8, hB8⟩ := Bo.new8 BO7.out ho8 hb8
  have VB8 := VB7.out.keep (B := w7.heap.size) (by omega) hb8
  have hz8 := hb8.size
  obtain ⟨m8, hm8⟩ : ∃ m, (insW ⟨k, v⟩ S).length = m := ⟨_, rfl⟩
  obtain ⟨Q8, hQ8⟩ : ∃ Q, insW ⟨k, v⟩ S = Q := ⟨_, rfl⟩
  rw [hm8, hQ8] at hB8
  rw [hm8]
  have o9 := (Off.refl tb W8).setCell (p := ⟨tb, 8, none⟩) rfl (.slice A8 m8 c8)
  have l9 := L8.out.keep (o9.below htw)
  obtain ⟨_, _, _, _, _, _, _, _, d8⟩ := hx8.tb
  have f8 := hx8.fz 8
  have HM8 := Lib.hid hm8
  have HQ8 := Lib.hid hQ8
  obtain ⟨_, _, _, v3, _⟩ := Go.Proofs.Ytajllccgfhminaa.ch.atFlat (ver_off VB8 (o9.block qv (by omega)))
  have hz9 : (W8.setCell ⟨tb, 8, none⟩ (.slice A8 m8 c8)).heap.size = W8.heap.size := o9.size
  clear ho8 ha8 hf8 hb8 hx8 VB8 hm8 hQ8 o9
  go_wp2_with fail
  generalize W8.setCell _ _ = W9 at hB8 l9 v3 hz9 ⊢
  have L9 := Lib.hid l9
  have BO9 := Lib.hid hB8
  clear l9 hB8 d8 f8
  try go_wp2_with fail
  refine (raise_low z.d BO9.out).mono ?_
  rintro e Wa ⟨rfl, hBa, hb⟩
  have La := Lib.hid (L9.out.keep hb)
  have BOa := Lib.hid hBa
  clear hb hBa v3
  obtain ⟨t0, t1, t2, t3, t4, t5, t6, t7, t8⟩ := BOa.out.bx.tb
  obtain ⟨z0, z1, z2, z3, z4, z5, z6, z7, z8⟩ := La.out.rb.tb
  have y0 := La.out.rb.fz 0
  have y1 := La.out.rb.fz 1
  have y2 := La.out.rb.fz 2
  have y3 := La.out.rb.fz 3
  have y4 := La.out.rb.fz 4
  have y5 := La.out.rb.fz 5
  have y6 := La.out.rb.fz 6
  have y7 := La.out.rb.fz 7
  have y8 := La.out.rb.fz 8
  go_wp2_with fail
  obtain ⟨hT, hO, hB9⟩ := give_back (w := w) (x := { x with l := max x.l z.d }) La.out.rb BOa.out.own (by omega) (by omega) La.out.bel (by omega)
  clear t0 t1 t2 t3 t4 t5 t6 t7 t8 z0 z1 z2 z3 z4 z5 z6 z7 z8 y0 y1 y2 y3 y4 y5 y6 y7 y8
  generalize (((((((((World.setCell _ _ _).setCell _ _).setCell _ _).setCell _ _).setCell _ _).setCell _ _).setCell _ _).setCell _ _).setCell _ _) = W9 at hT hO hB9 ⊢
  obtain ⟨e0, e1, e2, e3, e4, e5, e6, e7, e8⟩ := hT
  refine bodyPost_ret (v := .tuple #[txv { x with l := max x.l z.d } (.slice A' n c') (.slice A8 m8 c8), .bool true]) (by simp [results, Try.results24, go_sem, e0, e1, e2, e3, e4, e5, e6, e7, e8]) rfl ?_
  unfold TwO
  rw [HE.out.1, HE.out.2, HQ.out, HZ.out, HQ8.out, show Q8.length = m8 by rw [← HQ8.out]; exact HM8.out]
  exact ⟨_, _, _, _, rfl, hO, hB9⟩
set_option maxRecDepth 100000 in
set_option maxHeartbeats 6400000 in
theorem spec_tw {w : World} {B n c n2 c2 N cN : Nat} {A A2 D : Option Addr} {R S : List E2} {C : List (List Ver)} (x : Hd) (k v : Int) (hn : n ≤ 1048576) (hn2 : n2 ≤ 1048576) (hN : N ≤ 1048576) (h1 : Vs w B A n R) (h2 : Vs w B A2 n2 S) (h3 : Rs w B D N C) (hB : B ≤ w.heap.size) (hc : n2 ≤ c2) (hA : (A2 = none ∧ c2 = 0) ∨ ∃ b o, A2 = some ⟨b, o, none⟩) :
    Calls Try.prog 25 #[.agg #[.slice D N cN], .agg #[.int .i64 x.i, .int .i64 x.s, .int .i64 x.t, .int .i64 x.b, .int .i64 x.l, .int .i64 x.h, .int .i64 x.c, .slice A n c, .slice A2 n2 c2], .int .i64 k, .int .i64 v] w (TwO C x n R S k v w) := by
  have H1 := Lib.hid h1
  have H2 := Lib.hid h2
  have H3 := Lib.hid h3
  have hln := h1.1
  have hln2 := h2.1
  have HA := Lib.hid hA
  clear hA
  clear h1 h2 h3
  go_enter Try.func25, Try.ntmps25
  go_wp2_with fail
  have hL := LZ.mk3 w x A A2 D n c n2 c2 N cN
  generalize ((w.alloc _).alloc _).alloc _ = W0 at hL ⊢
  have L0 := Lib.hid hL
  have hz0 := hL.size
  obtain ⟨t0, t1, t2, t3, t4, t5, t6, t7, t8⟩ := hL.tb
  clear hL
  try go_wp2_with fail
  refine (copy_m x (by omega) (by omega) (H1.out.below (below_le L0.out.bel hB)) (H2.out.below (below_le L0.out.bel hB)) (by omega)).mono ?_
  rintro e W1 ⟨u, u2, rfl, ho, hb⟩
  obtain ⟨A', c', rfl, _⟩ := own_vs ho.1 hln
  obtain ⟨A2', c2', rfl, _⟩ := own_vs ho.2 hln2
  have L1 := Lib.hid (L0.out.call hb)
  have O1 := Lib.hid (ho.more hz0)
  have hz1 := hb.size
  clear ho hb t0 t1 t2 t3 t4 t5 t6 t7 t8
  obtain ⟨t0, t1, t2, t3, t4, t5, t6, t7, t8⟩ := L1.out.tb
  have c0 := L1.out.st
  have hlt0 : w.heap.size < W1.heap.size := by omega
  have hlt1 : w.heap.size + 1 < W1.heap.size := by omega
  go_wp2_with fail
  have bo2 : Bo (W1.alloc (.cells #[.int .i64 x.i, .int .i64 x.s, .int .i64 x.t, .int .i64 x.b, .int .i64 x.l, .int .i64 x.h, .int .i64 x.c, (.slice A' n c'), (.slice A2' n2 c2')] 27)) (w.heap.size + 3) W1.heap.size x A' n c' R A2' n2 c2' S := ⟨Bx.new W1 x _ _, O1.out.keep (new1 W1 _), by omega⟩
  have l2 := L1.out.call (new1 W1 (.cells #[.int .i64 x.i, .int .i64 x.s, .int .i64 x.t, .int .i64 x.b, .int .i64 x.l, .int .i64 x.h, .int .i64 x.c, (.slice A' n c'), (.slice A2' n2 c2')] 27))
  generalize htb : W1.heap.size = tb at bo2 ⊢
  generalize W1.alloc _ = W2 at bo2 l2 ⊢
  have L2 := Lib.hid l2
  have hz2 := l2.size
  have BO2 := Lib.hid bo2
  have htw : w.heap.size + 3 ≤ tb := by omega
  clear bo2 l2 t0 t1 t2 t3 t4 t5 t6 t7 t8 c0 hlt0 hlt1 hz1 htb
  have c0 := L2.out.st
  try go_wp2_with fail
  refine (val.spec_store (by omega) (H3.out.below (below_le L2.out.bel hB)) (by omega)).mono ?_
  rintro e W3 ⟨rfl, hb⟩
  have L3 := Lib.hid (L2.out.call hb)
  have BO3 := Lib.hid (BO2.out.keep hb)
  have hz3 := hb.size
  clear hb
  clear c0
  rcases hst : stB C with _ | _
  · have HQ : Hid (twB C x R S k v = false) := Lib.hid (tw_s hst)
    clear hst
    have HE := Lib.hid (tw_no HQ.out)
    obtain ⟨t0, t1, t2, t3, t4, t5, t6, t7, t8⟩ := BO3.out.bx.tb
    obtain ⟨z0, z1, z2, z3, z4, z5, z6, z7, z8⟩ := L3.out.rb.tb
    have y0 := L3.out.rb.fz 0
    have y1 := L3.out.rb.fz 1
    have y2 := L3.out.rb.fz 2
    have y3 := L3.out.rb.fz 3
    have y4 := L3.out.rb.fz 4
    have y5 := L3.out.rb.fz 5
    have y6 := L3.out.rb.fz 6
    have y7 := L3.out.rb.fz 7
    have y8 := L3.out.rb.fz 8
    go_wp2_with fail
    obtain ⟨hT, hO, hB9⟩ := give_back (w := w) (x := x) L3.out.rb BO3.out.own (by omega) (by omega) L3.out.bel (by omega)
    clear t0 t1 t2 t3 t4 t5 t6 t7 t8 z0 z1 z2 z3 z4 z5 z6 z7 z8 y0 y1 y2 y3 y4 y5 y6 y7 y8
    generalize (((((((((World.setCell _ _ _).setCell _ _).setCell _ _).setCell _ _).setCell _ _).setCell _ _).setCell _ _).setCell _ _).setCell _ _) = W9 at hT hO hB9 ⊢
    obtain ⟨e0, e1, e2, e3, e4, e5, e6, e7, e8⟩ := hT
    refine bodyPost_ret (v := .tuple #[txv x (.slice A' n c') (.slice A2' n2 c2'), .bool false]) (by simp [results, Try.results25, go_sem, e0, e1, e2, e3, e4, e5, e6, e7, e8]) rfl ?_
    unfold TwO
    rw [HE.out.1, HE.out.2, HQ.out, hln2]
    exact ⟨_, _, _, _, rfl, hO, hB9⟩
  have HST := Lib.hid hst
  clear hst
  obtain ⟨t0, t1, t2, t3, t4, t5, t6, t7, t8⟩ := L3.out.tb
  go_wp2_with fail
  refine (tvs.spec_tx x (by omega) (by omega) (H1.out.below (below_le L3.out.bel hB)) (H2.out.below (below_le L3.out.bel hB)) (by omega)).mono ?_
  rintro e W4 ⟨rfl, hb⟩
  have L4 := Lib.hid (L3.out.call hb)
  have BO4 := Lib.hid (BO3.out.keep hb)
  have hz4 := hb.size
  clear hb
  clear t0 t1 t2 t3 t4 t5 t6 t7 t8
  rcases hq : txB x R S with _ | _
  · have HQ : Hid (twB C x R S k v = false) := Lib.hid (tw_t hq)
    clear hq
    have HE := Lib.hid (tw_no HQ.out)
    obtain ⟨t0, t1, t2, t3, t4, t5, t6, t7, t8⟩ := BO4.out.bx.tb
    obtain ⟨z0, z1, z2, z3, z4, z5, z6, z7, z8⟩ := L4.out.rb.tb
    have y0 := L4.out.rb.fz 0
    have y1 := L4.out.rb.fz 1
    have y2 := L4.out.rb.fz 2
    have y3 := L4.out.rb.fz 3
    have y4 := L4.out.rb.fz 4
    have y5 := L4.out.rb.fz 5
    have y6 := L4.out.rb.fz 6
    have y7 := L4.out.rb.fz 7
    have y8 := L4.out.rb.fz 8
    go_wp2_with fail
    obtain ⟨hT, hO, hB9⟩ := give_back (w := w) (x := x) L4.out.rb BO4.out.own (by omega) (by omega) L4.out.bel (by omega)
    clear t0 t1 t2 t3 t4 t5 t6 t7 t8 z0 z1 z2 z3 z4 z5 z6 z7 z8 y0 y1 y2 y3 y4 y5 y6 y7 y8
    generalize (((((((((World.setCell _ _ _).setCell _ _).setCell _ _).setCell _ _).setCell _ _).setCell _ _).setCell _ _).setCell _ _).setCell _ _) = W9 at hT hO hB9 ⊢
    obtain ⟨e0, e1, e2, e3, e4, e5, e6, e7, e8⟩ := hT
    refine bodyPost_ret (v := .tuple #[txv x (.slice A' n c') (.slice A2' n2 c2'), .bool false]) (by simp [results, Try.results25, go_sem, e0, e1, e2, e3, e4, e5, e6, e7, e8]) rfl ?_
    unfold TwO
    rw [HE.out.1, HE.out.2, HQ.out, hln2]
    exact ⟨_, _, _, _, rfl, hO, hB9⟩
  have HT := Lib.hid hq
  clear hq
  obtain ⟨t0, t1, t2, t3, t4, t5, t6, t7, t8⟩ := L4.out.tb
  clear t0 t1 t3 t5 t6
  by_cases hs : x.t = 1
  · have hs1 : (x.t != 1) = false := by simp [hs]
    have HSS := Lib.hid hs
    clear hs
    go_wp2_with fail
    refine (vers.in_range k 0 5 _).mono ?_
    rintro e W5 ⟨rfl, rfl⟩
    rcases hq : In 0 5 k with _ | _
    · have HQ : Hid (twB C x R S k v = false) := Lib.hid (tw_k hq)
      clear hq t2 t4 t7 t8
      have HE := Lib.hid (tw_no HQ.out)
      obtain ⟨t0, t1, t2, t3, t4, t5, t6, t7, t8⟩ := BO4.out.bx.tb
      obtain ⟨z0, z1, z2, z3, z4, z5, z6, z7, z8⟩ := L4.out.rb.tb
      have y0 := L4.out.rb.fz 0
      have y1 := L4.out.rb.fz 1
      have y2 := L4.out.rb.fz 2
      have y3 := L4.out.rb.fz 3
      have y4 := L4.out.rb.fz 4
      have y5 := L4.out.rb.fz 5
      have y6 := L4.out.rb.fz 6
      have y7 := L4.out.rb.fz 7
      have y8 := L4.out.rb.fz 8
      go_wp2_with fail
      obtain ⟨hT, hO, hB9⟩ := give_back (w := w) (x := x) L4.out.rb BO4.out.own (by omega) (by omega) L4.out.bel (by omega)
      clear t0 t1 t2 t3 t4 t5 t6 t7 t8 z0 z1 z2 z3 z4 z5 z6 z7 z8 y0 y1 y2 y3 y4 y5 y6 y7 y8
      generalize (((((((((World.setCell _ _ _).setCell _ _).setCell _ _).setCell _ _).setCell _ _).setCell _ _).setCell _ _).setCell _ _).setCell _ _) = W9 at hT hO hB9 ⊢
      obtain ⟨e0, e1, e2, e3, e4, e5, e6, e7, e8⟩ := hT
      refine bodyPost_ret (v := .tuple #[txv x (.slice A' n c') (.slice A2' n2 c2'), .bool false]) (by simp [results, Try.results25, go_sem, e0, e1, e2, e3, e4, e5, e6, e7, e8]) rfl ?_
      unfold TwO
      rw [HE.out.1, HE.out.2, HQ.out, hln2]
      exact ⟨_, _, _, _, rfl, hO, hB9⟩
    have HK := Lib.hid hq
    clear hq
    go_wp2_with fail
    refine (vers.in_range v (-1) 99 _).mono ?_
    rintro e W5 ⟨rfl, rfl⟩
    rcases hq : In (-1) 99 v with _ | _
    · have HQ : Hid (twB C x R S k v = false) := Lib.hid (tw_v hq)
      clear hq t2 t4 t7 t8
      have HE := Lib.hid (tw_no HQ.out)
      obtain ⟨t0, t1, t2, t3, t4, t5, t6, t7, t8⟩ := BO4.out.bx.tb
      obtain ⟨z0, z1, z2, z3, z4, z5, z6, z7, z8⟩ := L4.out.rb.tb
      have y0 := L4.out.rb.fz 0
      have y1 := L4.out.rb.fz 1
      have y2 := L4.out.rb.fz 2
      have y3 := L4.out.rb.fz 3
      have y4 := L4.out.rb.fz 4
      have y5 := L4.out.rb.fz 5
      have y6 := L4.out.rb.fz 6
      have y7 := L4.out.rb.fz 7
      have y8 := L4.out.rb.fz 8
      go_wp2_with fail
      obtain ⟨hT, hO, hB9⟩ := give_back (w := w) (x := x) L4.out.rb BO4.out.own (by omega) (by omega) L4.out.bel (by omega)
      clear t0 t1 t2 t3 t4 t5 t6 t7 t8 z0 z1 z2 z3 z4 z5 z6 z7 z8 y0 y1 y2 y3 y4 y5 y6 y7 y8
      generalize (((((((((World.setCell _ _ _).setCell _ _).setCell _ _).setCell _ _).setCell _ _).setCell _ _).setCell _ _).setCell _ _).setCell _ _) = W9 at hT hO hB9 ⊢
      obtain ⟨e0, e1, e2, e3, e4, e5, e6, e7, e8⟩ := hT
      refine bodyPost_ret (v := .tuple #[txv x (.slice A' n c') (.slice A2' n2 c2'), .bool false]) (by simp [results, Try.results25, go_sem, e0, e1, e2, e3, e4, e5, e6, e7, e8]) rfl ?_
      unfold TwO
      rw [HE.out.1, HE.out.2, HQ.out, hln2]
      exact ⟨_, _, _, _, rfl, hO, hB9⟩
    have HV := Lib.hid hq
    clear hq t2 t7
    have HQ : Hid (twB C x R S k v = true) := Lib.hid (tw_y2 HST.out HT.out HSS.out HK.out HV.out)
    have HE := Lib.hid (tw_yes HQ.out)
    go_wp2_with fail
    refine (put_w ⟨k, v⟩ (by omega) hc HA.out (H2.out.below (below_le L4.out.bel hB)) (by omega)).mono ?_
    rintro e W5 ⟨A8, c8, rfl, ho, hb⟩
    have L5 := Lib.hid (L4.out.call hb)
    obtain ⟨hx8, hB8⟩ := Bo.new8 BO4.out ho hb
    have hz5 := hb.size
    obtain ⟨m8, hm8⟩ : ∃ m, (insW ⟨k, v⟩ S).length = m := ⟨_, rfl⟩
    obtain ⟨Q8, hQ8⟩ : ∃ Q, insW ⟨k, v⟩ S = Q := ⟨_, rfl⟩
    rw [hm8, hQ8] at hB8
    rw [hm8]
    have o9 := (Off.refl tb W5).setCell (p := ⟨tb, 8, none⟩) rfl (.slice A8 m8 c8)
    have l9 := L5.out.keep (o9.below htw)
    obtain ⟨_, _, _, _, _, _, _, _, d8⟩ := hx8.tb
    have f8 := hx8.fz 8
    have HM8 := Lib.hid hm8
    have HQ8 := Lib.hid hQ8
    have hz9 : (W5.setCell ⟨tb, 8, none⟩ (.slice A8 m8 c8)).heap.size = W5.heap.size := o9.size
    clear ho hb hx8 hm8 hQ8 o9 t4 t8
    go_wp2_with fail
    generalize W5.setCell _ _ = W6 at hB8 l9 hz9 ⊢
    have L6 := Lib.hid l9
    have BO6 := Lib.hid hB8
    clear l9 hB8 d8 f8
    obtain ⟨_, _, _, _, t4, _, _, _, _⟩ := L6.out.tb
    have T4 := Lib.hid t4
    have c0 := L6.out.st
    have C0 := Lib.hid c0
    have h6 := val.st_six HST.out
    rw [H3.out.1] at h6
    obtain ⟨s1, s2⟩ := in_lo HK.out
    have s3 : k < (N : Int) := by omega
    have s4 : k.toNat < N := by omega
    clear h6
    obtain ⟨b2, o2, l, A9, n9, c9, rfl, hb2, hl, d0, hn9, hv⟩ := (H3.out.below (below_le L6.out.bel hB)).at_ s4
    have D0 := Lib.hid d0
    have HVV := Lib.hid hv
    obtain ⟨z, hz⟩ : ∃ z, rlV C k = z := ⟨_, rfl⟩
    have HZ := Lib.hid hz
    have HLV : Hid (Go.Proofs.Ytajllccgfhminaa.find.lastV l = z) := Lib.hid (by rw [← hz]; exact (Go.Proofs.Ytajllccgfhminaa.rd.rlV_yes (rl_y HST.out HK.out) hl).symm)
    have hBw : B ≤ W6.heap.size := by omega
    have hb2w : b2 < W6.heap.size := by omega
    have hb2t : b2 ≠ tb := by omega
    have hbk0 : Below W6.heap.size W6 W6.drew := (Below.refl _ _).drew
    have hbt := BO6.out.lt
    clear hl hv hz
    try go_wp2_with fail
    go_region_held3 (fun w' => w'.cell? ⟨w.heap.size, 0, none⟩ = some (.slice (some ⟨b2, o2, none⟩) N cN) ∧ w'.cell? ⟨w.heap.size + 1, 4, none⟩ = some (.int .i64 x.l) ∧ w'.cell? ⟨b2, o2 + k.toNat, none⟩ = some (.slice A9 n9 c9)) (first | with_reducible exact hSt | go_keep) (first | (go_at_call 33; (with_reducible refine (Go.Proofs.Ytajllccgfhminaa.find.latest_spec HLV.out hn9 ((HVV.out.below (below_le hbk0 hBw)).more hBw) (Nat.le_refl _)).mono ?_); rintro e W7 ⟨he, hb'⟩; subst he; have hf := fld3 (.int .i64 z.a) (.int .i64 z.b) (.int .i64 z.c) (.int .i64 z.d) (.int .i64 z.e); have hbk1 := hbk0.trans (hb'.mono hbk0.size); have B7 := BO6.out.keep hbk1; have e1 := (hbk1.cell (p := ⟨w.heap.size, 0, none⟩) (by simp only; omega)).trans C0.out; have e2 := (hbk1.cell (p := ⟨w.heap.size + 1, 4, none⟩) (by simp only; omega)).trans T4.out; have e3 := (hbk1.cell (p := ⟨b2, o2 + k.toNat, none⟩) hb2w).trans D0.out; obtain ⟨_, _, _, _, d4, _, _, _, _⟩ := B7.bx.tb; have f4 := B7.bx.fz 4; have o4 := (Off.refl tb W7).setCell (p := ⟨tb, 4, none⟩) rfl (.int .i64 (max x.l z.d)); have hSt := And.intro ((World.cell?_of_block (w := W7) (a := ⟨w.heap.size, 0, none⟩) (o4.block _ (show w.heap.size ≠ tb by omega))).trans e1) (And.intro ((World.cell?_of_block (w := W7) (a := ⟨w.heap.size + 1, 4, none⟩) (o4.block _ (show w.heap.size + 1 ≠ tb by omega))).trans e2) ((World.cell?_of_block (w := W7) (a := ⟨b2, o2 + k.toNat, none⟩) (o4.block _ hb2t)).trans e3))))
    have l7 := L6.out.call hbk1
    have b8 := B7.put4 (max x.l z.d)
    have l8 := l7.keep (((Off.refl tb W7).setCell (p := ⟨tb, 4, none⟩) rfl (.int .i64 (max x.l z.d))).below htw)
    clear hf hbk0 hbk1 B7 e1 e2 e3 d4 f4 hb' l7 t4 c0 d0 o4 hSt
    have L8 := Lib.hid l8
    have BO8 := Lib.hid b8
    clear l8 b8
    obtain ⟨t0, t1, t2, t3, t4, t5, t6, t7, t8⟩ := BO8.out.bx.tb
    obtain ⟨z0, z1, z2, z3, z4, z5, z6, z7, z8⟩ := L8.out.rb.tb
    have y0 := L8.out.rb.fz 0
    have y1 := L8.out.rb.fz 1
    have y2 := L8.out.rb.fz 2
    have y3 := L8.out.rb.fz 3
    have y4 := L8.out.rb.fz 4
    have y5 := L8.out.rb.fz 5
    have y6 := L8.out.rb.fz 6
    have y7 := L8.out.rb.fz 7
    have y8 := L8.out.rb.fz 8
    go_wp2_with fail
    obtain ⟨hT, hO, hB9⟩ := give_back (w := w) (x := { x with l := max x.l z.d }) L8.out.rb BO8.out.own (by omega) (by omega) L8.out.bel (by omega)
    clear t0 t1 t2 t3 t4 t5 t6 t7 t8 z0 z1 z2 z3 z4 z5 z6 z7 z8 y0 y1 y2 y3 y4 y5 y6 y7 y8
    generalize (((((((((World.setCell _ _ _).setCell _ _).setCell _ _).setCell _ _).setCell _ _).setCell _ _).setCell _ _).setCell _ _).setCell _ _) = W9 at hT hO hB9 ⊢
    obtain ⟨e0, e1, e2, e3, e4, e5, e6, e7, e8⟩ := hT
    refine bodyPost_ret (v := .tuple #[txv { x with l := max x.l z.d } (.slice A' n c') (.slice A8 m8 c8), .bool true]) (by simp [results, Try.results25, go_sem, e0, e1, e2, e3, e4, e5, e6, e7, e8]) rfl ?_
    unfold TwO
    rw [HE.out.1, HE.out.2, HQ.out, HZ.out, HQ8.out, show Q8.length = m8 by rw [← HQ8.out]; exact HM8.out]
    exact ⟨_, _, _, _, rfl, hO, hB9⟩
  · have hs1 : (x.t != 1) = true := by simp [hs]
    have HQ : Hid (twB C x R S k v = false) := Lib.hid (tw_n hs)
    clear hs t4 t7 t8
    have HE := Lib.hid (tw_no HQ.out)
    obtain ⟨t0, t1, t2, t3, t4, t5, t6, t7, t8⟩ := BO4.out.bx.tb
    obtain ⟨z0, z1, z2, z3, z4, z5, z6, z7, z8⟩ := L4.out.rb.tb
    have y0 := L4.out.rb.fz 0
    have y1 := L4.out.rb.fz 1
    have y2 := L4.out.rb.fz 2
    have y3 := L4.out.rb.fz 3
    have y4 := L4.out.rb.fz 4
    have y5 := L4.out.rb.fz 5
    have y6 := L4.out.rb.fz 6
    have y7 := L4.out.rb.fz 7
    have y8 := L4.out.rb.fz 8
    go_wp2_with fail
    obtain ⟨hT, hO, hB9⟩ := give_back (w := w) (x := x) L4.out.rb BO4.out.own (by omega) (by omega) L4.out.bel (by omega)
    clear t0 t1 t2 t3 t4 t5 t6 t7 t8 z0 z1 z2 z3 z4 z5 z6 z7 z8 y0 y1 y2 y3 y4 y5 y6 y7 y8
    generalize (((((((((World.setCell _ _ _).setCell _ _).setCell _ _).setCell _ _).setCell _ _).setCell _ _).setCell _ _).setCell _ _).setCell _ _) = W9 at hT hO hB9 ⊢
    obtain ⟨e0, e1, e2, e3, e4, e5, e6, e7, e8⟩ := hT
    refine bodyPost_ret (v := .tuple #[txv x (.slice A' n c') (.slice A2' n2 c2'), .bool false]) (by simp [results, Try.results25, go_sem, e0, e1, e2, e3, e4, e5, e6, e7, e8]) rfl ?_
    unfold TwO
    rw [HE.out.1, HE.out.2, HQ.out, hln2]
    exact ⟨_, _, _, _, rfl, hO, hB9⟩
end Go.Proofs.Ytajllccgfhminaa.tw
/- How long a list of writes is behind TrackWrite. Plain mathematics. -/
namespace Go.Proofs.Ytajllccgfhminaa.twm
open Go.Proofs.Ytajllccgfhminaa.el2 Go.Proofs.Ytajllccgfhminaa.tx Go.Proofs.Ytajllccgfhminaa.tk Go.Proofs.Ytajllccgfhminaa.pw Go.Proofs.Ytajllccgfhminaa.tw
open Go.Proofs.Ytajllccgfhminaa.sl (Ver)
theorem twS_max (C : List (List Ver)) (x : Hd) (R S : List E2) (k v : Int) : (twS C x R S k v).length ≤ S.length ∨ (twS C x R S k v).length ≤ 7 := by
  by_cases h : twB C x R S k v = true
  · rw [(tw_yes h).2]
    have h1 : actB x R S = true := by simp only [twB, Bool.and_eq_true] at h; exact h.1.2
    have h2 := tx_six (act_tx h1)
    have h3 := insW_len ⟨k, v⟩ S
    omega
  · rw [(tw_no (Bool.eq_false_iff.2 h)).2]
    exact .inl (Nat.le_refl _)
end Go.Proofs.Ytajllccgfhminaa.twm
namespace Go.Proofs.Ytajllccgfhminaa.wrm
open Go.ChangeShapes Go.WideShapes Go.ChangeAt Go.RowKit
open Go.Proofs.Ytajllccgfhminaa.el2 Go.Proofs.Ytajllccgfhminaa.tx Go.Proofs.Ytajllccgfhminaa.seq Go.Proofs.Ytajllccgfhminaa.tv Go.Proofs.Ytajllccgfhminaa.tf Go.Proofs.Ytajllccgfhminaa.rx Go.Proofs.Ytajllccgfhminaa.tk Go.Proofs.Ytajllccgfhminaa.pw Go.Proofs.Ytajllccgfhminaa.mw Go.Proofs.Ytajllccgfhminaa.tw Go.Proofs.Ytajllccgfhminaa.rl Go.Proofs.Ytajllccgfhminaa.ov Go.Proofs.Ytajllccgfhminaa.wk Go.Proofs.Ytajllccgfhminaa.rv
open Go.Proofs.Ytajllccgfhminaa.vers (In)
open Go.Proofs.Ytajllccgfhminaa.sl (Ver)
open Go.Proofs.Ytajllccgfhminaa.val (stB)
open Go.Proofs.Ytajllccgfhminaa.rd (rlB rlV)
open Go.Proofs.Ytajllccgfhminaa.ints (Is)
set_option linter.unusedVariables false
set_option linter.unusedSimpArgs false
section
variable {C : List (List Ver)} {x : Hd} {R S : List E2} {k v : Int}
theorem in_yes {a b z : Int} (h : a ≤ z ∧ z ≤ b) : In a b z = true := by simp [In, h.1, h.2]
theorem tw_parts (h : twB C x R S k v = true) : rlB C k = true ∧ actB x R S = true ∧ In (-1) 99 v = true := by
  simp only [twB, Bool.and_eq_true] at h
  exact ⟨h.1.1, h.1.2, h.2⟩
theorem rl_parts (h : rlB C k = true) : stB C = true ∧ 0 ≤ k ∧ k ≤ 5 := by
  simp only [rlB, Bool.and_eq_true] at h
  exact ⟨h.1, in_lo h.2⟩
/-- the latest version of a key of a valid store has a reader that is a stamp -/
theorem last_ok (hs : stB C = true) {j : Nat} {l : List Ver} (hl : C[j]? = some l) : 0 ≤ (Go.Proofs.Ytajllccgfhminaa.find.lastV l).d ∧ (Go.Proofs.Ytajllccgfhminaa.find.lastV l).d ≤ 999 := by
  have hc := Go.Proofs.Ytajllccgfhminaa.val.okL_ch_of (Go.Proofs.Ytajllccgfhminaa.val.st_ok hs hl)
  obtain ⟨h1, _, y, hy, _⟩ := Go.Proofs.Ytajllccgfhminaa.ch.ch_of hc
  rw [Go.Proofs.Ytajllccgfhminaa.find.last_yes hc hy]
  have := h1 _ _ hy
  simp only [Go.Proofs.Ytajllccgfhminaa.ch.okV, Go.Proofs.Ytajllccgfhminaa.vers.vB, decide_eq_true_eq] at this
  obtain ⟨_, _, c1, c2, c3, c4, _⟩ := this
  omega
theorem chain_at (h : rlB C k = true) : ∃ l, C[k.toNat]? = some l ∧ rlV C k = Go.Proofs.Ytajllccgfhminaa.find.lastV l := by
  obtain ⟨hs, h0, h5⟩ := rl_parts h
  have h6 := Go.Proofs.Ytajllccgfhminaa.val.st_six hs
  have hk : k.toNat < C.length := by omega
  exact ⟨_, List.getElem?_eq_getElem hk, Go.Proofs.Ytajllccgfhminaa.rd.rlV_yes h (List.getElem?_eq_getElem hk)⟩
theorem asc_sq {l : List E2} (ha : Asc l) (hm : ∀ m ∈ l, okW m = true) : wrB l = true := by
  unfold wrB
  refine sq_yes ⟨fun j y hy => hm y (List.mem_of_getElem? hy), fun j y z hy hz => ?_⟩
  have h1 := lt_get hy
  have h2 := lt_get hz
  rw [List.getElem?_eq_getElem h1] at hy
  rw [List.getElem?_eq_getElem h2] at hz
  injection hy with hy
  injection hz with hz
  have := (List.pairwise_iff_getElem.1 ha) j (j + 1) h1 h2 (by omega)
  rw [hy, hz] at this
  simpa [folW] using this
theorem tw_valid (h : twB C x R S k v = true) : txB (twX C x R S k v) R (twS C x R S k v) = true := by
  obtain ⟨hr, ha, hv⟩ := tw_parts h
  have ht := act_tx ha
  obtain ⟨hs, h0, h5⟩ := rl_parts hr
  obtain ⟨l, hl, hz⟩ := chain_at hr
  have hd := last_ok hs hl
  rw [← hz] at hd
  have hv2 := in_lo hv
  rw [(tw_yes h).1, (tw_yes h).2]
  have hasc := tx_asc ht
  have hin : ∀ m ∈ S, okW m = true := fun m hm => by
    obtain ⟨j, hj, e⟩ := List.getElem_of_mem hm
    exact (sq_of (tx_wr ht)).1 j m (by rw [List.getElem?_eq_getElem hj, e])
  have hw : wrB (insW ⟨k, v⟩ S) = true := asc_sq (insW_asc hasc) fun m hm => by
    rcases (insW_mem hasc).1 hm with e | ⟨hm, _⟩
    · subst e
      simp [okW, in_yes ⟨h0, h5⟩, hv]
    · exact hin m hm
  have h2 : hdB x = true ∧ rdB R = true := by simp only [txB, Bool.and_eq_true] at ht; exact ht.1
  have h3 : hdB { x with l := max x.l (rlV C k).d } = true := by
    have h4 := h2.1
    simp only [hdB, Bool.and_eq_true] at h4 ⊢
    obtain ⟨⟨⟨a, b⟩, c, d⟩, e⟩ := h4
    refine ⟨⟨⟨a, b⟩, in_yes ?_, d⟩, e⟩
    have := in_lo c
    omega
  simp [txB, h3, h2.2, hw]
/-- the write that stands there is found -/
theorem fnd_there {key : Int} : ∀ (l : List E2) (n : Nat) (y : E2), Asc l → y ∈ l → y.a = key → ∃ j, fndW key l n = ((n + j : Nat) : Int) ∧ l[j]? = some y
  | [], n, y, _, h, _ => by simp at h
  | a :: r, n, y, ha, h, hy => by
    obtain ⟨h1, h2⟩ := List.pairwise_cons.1 ha
    unfold fndW
    rcases List.mem_cons.1 h with e | h
    · subst e
      exact ⟨0, by rw [if_pos hy]; rfl, rfl⟩
    · have h3 := h1 y h
      obtain ⟨j, hj, hx⟩ := fnd_there r (n + 1) y h2 h hy
      exact ⟨j + 1, by rw [if_neg (by omega), hj]; omega, by simpa using hx⟩
theorem tw_mem (h : twB C x R S k v = true) : (⟨k, v⟩ : E2) ∈ twS C x R S k v := by
  rw [(tw_yes h).2]
  exact (insW_mem (tx_asc (act_tx (tw_parts h).2.1))).2 (.inl rfl)
theorem tw_read (h : twB C x R S k v = true) : rvB C (twX C x R S k v) R (twS C x R S k v) k 0 = true ∧ rvV C (twX C x R S k v) R (twS C x R S k v) k 0 = v := by
  have ht := tw_valid h
  obtain ⟨hr, ha, hv⟩ := tw_parts h
  obtain ⟨hs, h0, h5⟩ := rl_parts hr
  obtain ⟨j, hj, hx⟩ := fnd_there (twS C x R S k v) 0 ⟨k, v⟩ (tx_asc ht) (tw_mem h) rfl
  have h1 : rvB C (twX C x R S k v) R (twS C x R S k v) k 0 = true := by
    unfold rvB okB
    rw [hs, ht, in_yes ⟨h0, h5⟩, hj]
    simp
  refine ⟨h1, ?_⟩
  unfold rvV
  rw [if_pos h1, hj, if_pos (by omega)]
  simp [List.getD, hx]
theorem tw_both (h : twB C x R S k v = true) : ovL C (twX C x R S k v) R (twS C x R S k v) = (twS C x R S k v).map (ovM C) := by
  unfold ovL
  rw [if_pos (both_yes (rl_parts (tw_parts h).1).1 (tw_valid h))]
theorem tw_keys (h : twB C x R S k v = true) : k ∈ wkL (twX C x R S k v) R (twS C x R S k v) := by
  rw [wk_yes (tw_valid h)]
  exact List.mem_map.2 ⟨_, tw_mem h, rfl⟩
theorem tw_low (h : twB C x R S k v = true) : (rlV C k).d ≤ (twX C x R S k v).l := by
  rw [(tw_yes h).1]
  exact Int.le_max_right _ _
end
theorem Is.k {w : World} {B n : Nat} {A : Option Addr} {xs : List Int} (h : Is w B A n xs) {j : Nat} (hj : j < n) : ∃ b o y, A = some ⟨b, o, none⟩ ∧ b < B ∧ xs[j]? = some y ∧ w.cell? ⟨b, o + j, none⟩ = some (.int .i64 y) := h.at_ hj
set_option maxRecDepth 100000 in
set_option maxHeartbeats 800000 in
theorem same_ints {w : World} {B n c c2 : Nat} {A A2 : Option Addr} {xs : List Int} (hn : n ≤ 140737488355328) (h1 : Is w B A n xs) (h2 : Is w B A2 n xs) (hB : B ≤ w.heap.size) :
    Calls Try.prog 28 #[.slice A n c, .slice A2 n c2] w fun e w' => e = .returned (.bool true) ∧ Below w.heap.size w w' := by
  have H1 := Lib.hid h1
  have H2 := Lib.hid h2
  clear h1 h2
  go_enter Try.func28, Try.ntmps28
  go_wp2
  go_loopw [5] (fun i wr => ∃ k : Nat, k ≤ n ∧ i = .int .i64 k ∧ Below w.heap.size w wr) (fun i _ => n - (intOf i).toNat)
  case atStart => exact ⟨0, by omega, rfl, Below.refl _ _⟩
  case round =>
    obtain ⟨k, hk, rfl, hb⟩ := hrel
    by_cases hlt : k < n
    · obtain ⟨b, o, x, rfl, hbB, hx, hc⟩ := (H1.out.below (below_le hb hB)).at_ hlt
      obtain ⟨b', o', x', rfl, hbB', hx', hc'⟩ := (H2.out.below (below_le hb hB)).at_ hlt
      obtain rfl : x = x' := by rw [hx] at hx'; exact Option.some.inj hx'
      have HB := Lib.hid hb
      have t : (x == x) = true := by simp
      clear hb hx hx'
      go_wp2_with fail
      go_quiet (fail)
      go_wp2_with fail
      go_roundw
      case rel => exact ⟨k + 1, by omega, by go_num, Off1 HB.out _⟩
      case measure => simp [intOf]; omega
    · go_wp2
      go_ret
      exact ⟨rfl, hb⟩
theorem idx_step {xs : List Int} {z y : Int} {k : Nat} (h : ∀ j q, j < k → xs[j]? = some q → q ≠ z) (hy : xs[k]? = some y) (hne : y ≠ z) : ∀ j q, j < k + 1 → xs[j]? = some q → q ≠ z := fun j q hj hq => by
  by_cases e : j = k
  · subst e; rw [hy] at hq; injection hq with hq; rw [← hq]; exact hne
  · exact h j q (by omega) hq
set_option maxRecDepth 100000 in
set_option maxHeartbeats 800000 in
theorem has_int {w : World} {B n c : Nat} {A : Option Addr} {xs : List Int} {z : Int} (hn : n ≤ 140737488355328) (h1 : Is w B A n xs) (hz : z ∈ xs) (hB : B ≤ w.heap.size) :
    Calls Try.prog 34 #[.slice A n c, .int .i64 z] w fun e w' => e = .returned (.bool true) ∧ w = w' := by
  have H1 := Lib.hid h1
  have HZ := Lib.hid hz
  have hln := h1.1
  clear h1 hz
  go_enter Try.func34, Try.ntmps34
  go_wp2
  go_loop [5] (fun i => ∃ k : Nat, k ≤ n ∧ i = .int .i64 k ∧ ∀ j q, j < k → xs[j]? = some q → q ≠ z) (fun i => n - (intOf i).toNat)
  case atStart => exact ⟨0, by omega, rfl, fun j q h => absurd h (by omega)⟩
  case round =>
    obtain ⟨k, hk, rfl, hp⟩ := hrel
    have HP := Lib.hid hp
    clear hp
    by_cases hlt : k < n
    · obtain ⟨b, o, y, rfl, hbB, hx, hc⟩ := H1.out.at_ hlt
      have HX := Lib.hid hx
      clear hx
      by_cases hq : y = z
      · have t : (y == z) = true := by simp [hq]
        clear hq
        go_wp2_with fail
        go_ret
        exact ⟨rfl, rfl⟩
      · have t : (y == z) = false := by simp [hq]
        have HN := Lib.hid hq
        clear hq
        go_wp2_with fail
        go_round
        case rel => exact ⟨k + 1, by omega, by go_num, idx_step HP.out HX.out HN.out⟩
        case measure => simp [intOf]; omega
    · exfalso
      obtain ⟨j, hj, e⟩ := List.getElem_of_mem HZ.out
      exact HP.out j z (by omega) (by rw [List.getElem?_eq_getElem hj, e]) rfl
end Go.Proofs.Ytajllccgfhminaa.wrm
