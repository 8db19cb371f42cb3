/- slices.Clone, slices.IndexFunc and slices.DeleteFunc at operations; OpsOf of the program and of the model: what each answers, in memory of its own. -/
import Derived.Test.YtjnlbhmddhpmaabRo6
import Derived.Test.YtjnlbhmddhpmaabROp
import Derived.Test.YtjnlbhmddhpmaabVers
import Derived.Shelf.Abstract
import Derived.Lib.LazyBuf
import Derived.Lib.Overlaps
import Derived.Lib.AppendZerosOnto
import Derived.LoopTactic
import Derived.Deep.QuietTactic
import Derived.BigQuiet
import Derived.IntWalk
namespace Go.Proofs.Ytjnlbhmddhpmaab.oo
open Go.ChangeShapes Go.WideShapes Go.ChangeAt Go.RowKit
open Go.Proofs.Ytjnlbhmddhpmaab.el6 Go.Proofs.Ytjnlbhmddhpmaab.fr Go.Proofs.Ytjnlbhmddhpmaab.ow6 Go.Proofs.Ytjnlbhmddhpmaab.ap6 Go.Proofs.Ytjnlbhmddhpmaab.ro6
set_option linter.unusedVariables false
set_option linter.unusedSimpArgs false
set_option linter.constructorNameAsVariable false
theorem all_step {p : E6 → Bool} {l : List E6} {k : Nat} {x : E6} (h : ∀ (j : Nat) (y : E6), j < k → l[j]? = some y → p y = true) (hx : l[k]? = some x) (hp : p x = true) : ∀ (j : Nat) (y : E6), j < k + 1 → l[j]? = some y → p y = true := fun j y hj hy => by
  by_cases e : j = k
  · subst e; rw [hx] at hy; cases hy; exact hp
  · exact h j y (by omega) hy
theorem own_empty (w : World) (e : TypeId) (base : Nat) (hb : base ≤ w.heap.size) : (w.alloc (.cells #[] e)).ownsRow base e 6 (.slice (some ⟨w.heap.size, 0, none⟩) 0 0) 0 (flat []) := by
  have := World.ownsRow_made w (e := e) (size := 6) #[] 0 hb (by unfold maxLen; omega) rfl
  simpa [flat] using this
theorem info_op : (Try.prog.info? 32).map (fun i => (i.zero, i.size, i.bytes)) = some (some (.agg #[.int .i64 0, .int .i64 0, .int .i64 0, .int .i64 0, .int .i64 0, .int .i64 0]), 6, 48) := by kernel_rfl
set_option maxRecDepth 100000 in
set_option maxHeartbeats 800000 in
theorem clone_k {w : World} {B n c : Nat} {A : Option Addr} {l : List E6} (hn : n ≤ 2097152) (h1 : Vs w B A n l) (hB : B ≤ w.heap.size) :
    Calls Try.prog 16 #[.slice A n c] w fun e w' => ∃ A' c', e = .returned (.slice A' n c') ∧ w'.ownsRow w.heap.size 32 6 (.slice A' n c') n (flat l) ∧ Below w.heap.size w w' := by
  have H1 := Lib.hid h1
  obtain ⟨i0, hi, hz, hs, hb⟩ := info_parts info_op
  have HI := Lib.hid hi
  have HZ := Lib.hid hz
  have HS := Lib.hid hs
  have HB := Lib.hid hb
  clear h1 hi hz hs hb
  have q22 : ∀ (w : World) (a : Option Addr) (n c : Nat), (binOp .eql 24 (.slice a n c) (.slice none 0 0)).run Try.prog w = .ok (.bool a.isNone) w := fun w a n c => Go.run_eql_slice_nil w _ _ a n c Try.underlying24
  go_enter Try.func16, Try.ntmps16
  cases A with
  | none =>
    go_wp2_with fail
    go_ret
    obtain rfl : n = 0 := by
      rcases Nat.eq_zero_or_pos n with h | h
      · exact h
      · obtain ⟨_, _, e, _⟩ := H1.out.2 h; cases e
    obtain rfl : l = [] := List.eq_nil_of_length_eq_zero H1.out.1
    exact ⟨_, _, rfl, World.ownsRow_nil _ _ _ _, Below.refl _ _⟩
  | some a =>
    have hbase : w.heap.size ≤ (w.alloc (.cells #[] 32)).heap.size := by simp
    obtain ⟨v', w', hr, ho, hg⟩ := run_append_e6 (P := Try.prog) (w.alloc (.cells #[] 32)) 24 24 32 i0 _ Try.underlying24 HI.out HZ.out HS.out HB.out rfl (own_empty w 32 w.heap.size (Nat.le_refl _)) (H1.out.below (below_le (new1 w _) hB)) (A := some a) (c := c) (by omega) hbase
    have hb1 := (new1 w (.cells #[] 32)).grown hg hbase (fun k hk => by simp [Value.ownBlock] at hk; omega)
    rw [Nat.zero_add, List.nil_append] at ho
    obtain ⟨A', c', rfl, _⟩ := own_vs ho H1.out.1
    obtain ⟨ab, ao, asp⟩ := a
    go_wp2_with (at_builtin; refine Lib.wpList_append_run _ rfl _ _ 24 24 rfl _ _ rfl rfl _ _ hr ?_)
    go_ret
    exact ⟨_, _, rfl, ho, hb1⟩

/-- the first place where p holds -/
def FirstAt (p : E6 → Bool) (l : List E6) (z : Int) : Prop :=
  (z = -1 ∧ ∀ (j : Nat) (y : E6), l[j]? = some y → (!p y) = true) ∨ (∃ (k : Nat) (y : E6), z = k ∧ l[k]? = some y ∧ p y = true ∧ ∀ (j : Nat) (y : E6), j < k → l[j]? = some y → (!p y) = true)
set_option maxRecDepth 100000 in
set_option maxHeartbeats 1600000 in
theorem lib_index2 {w : World} {B n c base : Nat} {A : Option Addr} {l : List E6} (g : Nat) (sb : Nat) (p : E6 → Bool) (eg : ∀ args w, (callFunc g args).run Try.prog w = .ok (.enter g args) w)
    (hp : ∀ (W : World) (k : Nat) (y : E6), l[k]? = some y → Below base w W → Calls Try.prog g #[.agg #[.int .i64 y.a, .int .i64 y.b, .int .i64 y.c, .int .i64 y.d, .int .i64 y.e, .int .i64 y.f], .pointer (some ⟨sb, 0, none⟩)] W fun e w' => e = .returned (.bool (p y)) ∧ Below W.heap.size W w')
    (hn : n ≤ 140737488355328) (h1 : Vs w B A n l) (hB : B ≤ w.heap.size) (hbase : base ≤ w.heap.size) :
    Calls Try.prog 20 #[.slice A n c, .func (.func g) #[] #[.pointer (some ⟨sb, 0, none⟩)]] w fun e w' => (∃ z : Int, e = .returned (.int .i64 z) ∧ FirstAt p l z) ∧ Below w.heap.size w w' := by
  have H1 := Lib.hid h1
  have hln := h1.1
  have HP := Lib.hid hp
  clear h1 hp
  go_enter Try.func20, Try.ntmps20
  go_wp2_with fail
  go_loopw [5, 8] (fun _ i wr => ∃ k : Nat, k ≤ n ∧ i = .int .i64 k ∧ (∀ (j : Nat) (y : E6), j < k → l[j]? = some y → (!p y) = true) ∧ Below w.heap.size w wr) (fun _ i _ => n - (intOf i).toNat)
  case atStart => exact ⟨0, by omega, rfl, fun j y h => absurd h (by omega), Below.refl _ _⟩
  case round =>
    obtain ⟨k, hk, rfl, hP, hb⟩ := hrel
    have HQ := Lib.hid hP
    have HB := Lib.hid hb
    clear hP
    by_cases hlt : k < n
    · obtain ⟨b, o, y, rfl, hbB, hx, a0, a1, a2, a3, a4, a5⟩ := (H1.out.below (below_le hb hB)).at_ hlt
      have HX := Lib.hid hx
      clear hb hx
      generalize hpy : p y = q
      have HPY := Lib.hid hpy
      clear hpy
      cases q with
      | true =>
        go_wp2_with fail
        refine (HP.out _ k y HX.out (below_le HB.out hbase)).mono ?_
        rintro e w' ⟨rfl, hb'⟩
        rw [HPY.out]
        try go_wp2_with fail
        go_ret
        exact ⟨⟨k, rfl, .inr ⟨k, y, rfl, HX.out, HPY.out, HQ.out⟩⟩, HB.out.trans (hb'.mono HB.out.size)⟩
      | false =>
        go_wp2_with fail
        refine (HP.out _ k y HX.out (below_le HB.out hbase)).mono ?_
        rintro e w' ⟨rfl, hb'⟩
        rw [HPY.out]
        try go_wp2_with fail
        go_roundw
        case rel => exact ⟨k + 1, by omega, by go_num, all_step (p := fun y => !p y) HQ.out HX.out (by rw [HPY.out]; rfl), HB.out.trans (hb'.mono HB.out.size)⟩
        case measure => simp [intOf]; omega
    · clear hb
      obtain rfl : n = k := by omega
      go_wp2_with fail
      go_ret
      exact ⟨⟨-1, rfl, .inl ⟨rfl, fun j y hy => HQ.out j y (by have := lt_get hy; omega) hy⟩⟩, HB.out⟩
theorem filter_all {p : E6 → Bool} {l : List E6} (h : ∀ (j : Nat) (y : E6), l[j]? = some y → (!p y) = true) : l.filter (fun y => !p y) = l := by
  rw [List.filter_eq_self]
  intro y hy
  obtain ⟨j, hj, rfl⟩ := List.getElem_of_mem hy
  exact h j _ (List.getElem?_eq_getElem hj)
theorem filter_first {p : E6 → Bool} {l : List E6} {k : Nat} {y : E6} (hx : l[k]? = some y) (hy : p y = true) (h : ∀ (j : Nat) (y : E6), j < k → l[j]? = some y → (!p y) = true) : (l.take (k + 1)).filter (fun y => !p y) = l.take k := by
  rw [List.take_add_one, hx, List.filter_append, filter_all (l := l.take k) fun j z hz => ?_]
  · simp [hy]
  · rw [List.getElem?_take] at hz
    split at hz
    · exact h j z (by assumption) hz
    · cases hz
/-- the state of the loop: what is kept stands in front, what is to come stands where it stood -/
structure Del (p : E6 → Bool) (l r : List E6) (i j : Nat) : Prop where
  len : r.length = l.length
  lt : i + 1 ≤ j
  le : j ≤ l.length
  front : r.take i = (l.take j).filter (fun y => !p y)
  back : ∀ q, j ≤ q → r[q]? = l[q]?
theorem del_start {p : E6 → Bool} {l : List E6} {k : Nat} {y : E6} (hx : l[k]? = some y) (hy : p y = true) (h : ∀ (j : Nat) (y : E6), j < k → l[j]? = some y → (!p y) = true) : Del p l l k (k + 1) :=
  ⟨rfl, Nat.le_refl _, lt_get hx, (filter_first hx hy h).symm, fun _ _ => rfl⟩
theorem del_skip {p : E6 → Bool} {l r : List E6} {i j : Nat} {y : E6} (h : Del p l r i j) (hx : l[j]? = some y) (hy : p y = true) : Del p l r i (j + 1) :=
  ⟨h.len, by have := h.lt; omega, lt_get hx, by rw [h.front, List.take_add_one, hx]; simp [hy], fun q hq => h.back q (by omega)⟩
theorem del_keep {p : E6 → Bool} {l r : List E6} {i j : Nat} {y : E6} (h : Del p l r i j) (hx : l[j]? = some y) (hy : p y = false) : Del p l (r.set i y) (i + 1) (j + 1) := by
  have h1 := h.lt
  have h2 := h.len
  have h3 := lt_get hx
  refine ⟨by rw [List.length_set]; exact h2, by omega, h3, ?_, fun q hq => ?_⟩
  · rw [List.take_add_one, List.take_set_of_le (by omega), h.front, List.getElem?_set_self (by omega), List.take_add_one, hx]
    simp [hy]
  · rw [List.getElem?_set_ne (by omega)]
    exact h.back q (by omega)
theorem del_end {p : E6 → Bool} {l r : List E6} {i : Nat} (h : Del p l r i l.length) : r.take i = l.filter (fun y => !p y) := by rw [h.front, List.take_length]
theorem zero_op : ∀ w : World, (zeroValue 32).run Try.prog w = .ok (.agg #[.int .i64 0, .int .i64 0, .int .i64 0, .int .i64 0, .int .i64 0, .int .i64 0]) w := fun _ => by kernel_rfl
set_option maxRecDepth 100000 in
set_option maxHeartbeats 3200000 in
theorem lib_delete {w : World} {n c base blk : Nat} {l : List E6} (g : Nat) (sb : Nat) (p : E6 → Bool) (eg : ∀ args w, (callFunc g args).run Try.prog w = .ok (.enter g args) w)
    (hp : ∀ (W : World) (k : Nat) (y : E6), l[k]? = some y → Below base w W → Calls Try.prog g #[.agg #[.int .i64 y.a, .int .i64 y.b, .int .i64 y.c, .int .i64 y.d, .int .i64 y.e, .int .i64 y.f], .pointer (some ⟨sb, 0, none⟩)] W fun e w' => e = .returned (.bool (p y)) ∧ Below W.heap.size W w')
    (hn : n ≤ 140737488355328) (hln : l.length = n) (hr : Rw w 32 blk c l) (hbase : base ≤ blk) :
    Calls Try.prog 15 #[.slice (some ⟨blk, 0, none⟩) n c, .func (.func g) #[] #[.pointer (some ⟨sb, 0, none⟩)]] w fun e w' => e = .returned (.slice (some ⟨blk, 0, none⟩) (l.filter fun y => !p y).length c) ∧ Rw w' 32 blk c (l.filter fun y => !p y) ∧ Below base w w' := by
  have HP := Lib.hid hp
  have HR := Lib.hid hr
  have hlt0 := hr.lt
  have hcap : n ≤ c := by obtain ⟨_, _, h, _⟩ := id hr; omega
  have hvs : Vs w w.heap.size (some ⟨blk, 0, none⟩) n l := ⟨hln, fun _ => ⟨blk, 0, rfl, hlt0, hr.at_⟩⟩
  have HV := Lib.hid hvs
  have HLN := Lib.hid hln
  clear hp hr hvs hln
  go_enter Try.func15, Try.ntmps15
  go_wp2_with fail
  refine (lib_index2 (c := c) (base := base) g sb p eg HP.out hn HV.out (Nat.le_refl _) (by omega)).mono ?_
  rintro e W1 ⟨⟨z, rfl, hz⟩, hb⟩
  have HB1 := Lib.hid (below_le hb (show base ≤ w.heap.size by omega))
  have R1 := Lib.hid (Rw.of_block HR.out (hb.block blk hlt0))
  have hs1 := hb.size
  clear hb
  rcases hz with ⟨rfl, hz⟩ | ⟨k, y, rfl, hx, hy, hz⟩
  · have HF : Hid ((l.filter fun y => !p y) = l) := Lib.hid (filter_all hz)
    clear hz
    go_wp2_with fail
    go_ret
    rw [HF.out]
    exact ⟨by rw [HLN.out]; rfl, R1.out, HB1.out⟩
  have D1 := Lib.hid (del_start hx hy hz)
  have hk : k < n := by have := lt_get hx; have := HLN.out; omega
  have tk : ((k : Int) == -1) = false := by simp
  clear hx hy hz
  go_wp2_with fail
  go_loopw [5, 6, 7] (fun i j _ wr => ∃ (a b : Nat) (r : List E6), i = .int .i64 a ∧ j = .int .i64 b ∧ Del p l r a b ∧ Rw wr 32 blk c r ∧ Below base w wr ∧ blk < wr.heap.size) (fun _ j _ _ => n - (intOf j).toNat)
  case atStart => exact ⟨k, k + 1, l, rfl, by go_num, D1.out, R1.out, HB1.out, by omega⟩
  case round =>
    obtain ⟨a, b, r, rfl, rfl, hD, hR, hB, hsz⟩ := hrel
    have hab := hD.lt
    have hbn : b ≤ n := by have := hD.le; have := HLN.out; omega
    have hrl : r.length = n := by rw [hD.len]; exact HLN.out
    have DD := Lib.hid hD
    have RQ9 := Lib.hid hR
    have BB := Lib.hid hB
    have HRL := Lib.hid hrl
    clear hD hR hB hrl tk
    by_cases hlt : b < n
    · have hrb := DD.out.back b (Nat.le_refl _)
      obtain ⟨y, hy⟩ : ∃ y, l[b]? = some y := ⟨_, List.getElem?_eq_getElem (by have := HLN.out; omega)⟩
      obtain ⟨a0, a1, a2, a3, a4, a5⟩ := RQ9.out.at_ b y (hrb.trans hy)
      have HY := Lib.hid hy
      simp only [Nat.zero_add] at a0 a1 a2 a3 a4 a5
      clear hrb hy
      go_wp2_with fail
      have hbx := boxed wr y 32
      have hbb := BB.out.trans ((new1 wr (.cells #[.int .i64 y.a, .int .i64 y.b, .int .i64 y.c, .int .i64 y.d, .int .i64 y.e, .int .i64 y.f] 32)).mono (by omega))
      have hR2 := Rw.of_block RQ9.out ((new1 wr (.cells #[.int .i64 y.a, .int .i64 y.b, .int .i64 y.c, .int .i64 y.d, .int .i64 y.e, .int .i64 y.f] 32)).block blk hsz)
      have hsz2 : (wr.alloc (.cells #[.int .i64 y.a, .int .i64 y.b, .int .i64 y.c, .int .i64 y.d, .int .i64 y.e, .int .i64 y.f] 32)).heap.size = wr.heap.size + 1 := by simp
      generalize wr.alloc _ = W2 at hbx hbb hR2 hsz2 ⊢
      obtain ⟨x0, x1, x2, x3, x4, x5⟩ := atFlat hbx
      have X2 := Lib.hid hbx
      have B2 := Lib.hid hbb
      have R2 := Lib.hid hR2
      clear hbx hbb hR2 a0 a1 a2 a3 a4 a5
      generalize hpy : p y = q
      have HPY := Lib.hid hpy
      clear hpy
      cases q with
      | true =>
        go_wp2_with fail
        refine (HP.out _ b y HY.out B2.out).mono ?_
        rintro e w3 ⟨rfl, hb'⟩
        rw [HPY.out]
        try go_wp2_with fail
        have R3 := Lib.hid (Rw.of_block R2.out (hb'.block blk (by omega)))
        have B3 := Lib.hid (B2.out.trans (hb'.mono (by omega)))
        have hs3 := hb'.size
        go_roundw
        case rel => exact ⟨a, b + 1, r, rfl, by go_num, del_skip DD.out HY.out HPY.out, R3.out, B3.out, by omega⟩
        case measure => simp [intOf]; omega
      | false =>
        go_wp2_with fail
        refine (HP.out _ b y HY.out B2.out).mono ?_
        rintro e w3 ⟨rfl, hb'⟩
        rw [HPY.out]
        have R3 := Lib.hid (Rw.of_block R2.out (hb'.block blk (by omega)))
        have B3 := Lib.hid (B2.out.trans (hb'.mono (by omega)))
        have hs3 := hb'.size
        obtain ⟨y0, y1, y2, y3, y4, y5⟩ := atFlat (X2.out.keep (B := W2.heap.size) (by omega) hb')
        obtain ⟨u0, q0⟩ := Rw.cells R3.out (i := a * 6) (by omega)
        obtain ⟨u1, q1⟩ := Rw.cells R3.out (i := a * 6 + 1) (by omega)
        obtain ⟨u2, q2⟩ := Rw.cells R3.out (i := a * 6 + 2) (by omega)
        obtain ⟨u3, q3⟩ := Rw.cells R3.out (i := a * 6 + 3) (by omega)
        obtain ⟨u4, q4⟩ := Rw.cells R3.out (i := a * 6 + 4) (by omega)
        obtain ⟨u5, q5⟩ := Rw.cells R3.out (i := a * 6 + 5) (by omega)
        have z0 := Rw.fz R3.out (a * 6)
        have z1 := Rw.fz R3.out (a * 6 + 1)
        have z2 := Rw.fz R3.out (a * 6 + 2)
        have z3 := Rw.fz R3.out (a * 6 + 3)
        have z4 := Rw.fz R3.out (a * 6 + 4)
        have z5 := Rw.fz R3.out (a * 6 + 5)
        clear hb' x0 x1 x2 x3 x4 x5
        try go_wp2_with fail
        have R4 := Lib.hid (Rw.put R3.out (k := a) (by have := HRL.out; omega) y)
        have O4 := (((((((Off.refl blk w3).setCell (p := ⟨blk, a * 6, none⟩) rfl (.int .i64 y.a)).setCell (p := ⟨blk, a * 6 + 1, none⟩) rfl (.int .i64 y.b)).setCell (p := ⟨blk, a * 6 + 2, none⟩) rfl (.int .i64 y.c)).setCell (p := ⟨blk, a * 6 + 3, none⟩) rfl (.int .i64 y.d)).setCell (p := ⟨blk, a * 6 + 4, none⟩) rfl (.int .i64 y.e)).setCell (p := ⟨blk, a * 6 + 5, none⟩) rfl (.int .i64 y.f))
        have B4 := Lib.hid (B3.out.trans (O4.below hbase))
        have hs4 := O4.size
        clear O4 y0 y1 y2 y3 y4 y5 q0 q1 q2 q3 q4 q5 z0 z1 z2 z3 z4 z5
        go_roundw
        case rel => exact ⟨a + 1, b + 1, r.set a y, by go_num, by go_num, del_keep DD.out HY.out HPY.out, R4.out, B4.out, by omega⟩
        case measure => simp [intOf]; omega
    · obtain rfl : n = b := by omega
      have hE : r.take a = l.filter (fun y => !p y) := del_end (by rw [HLN.out]; exact DD.out)
      have hEl : (l.filter fun y => !p y).length = a := by rw [← hE, List.length_take, HRL.out]; omega
      have HE := Lib.hid hE
      have HEL := Lib.hid hEl
      have hca : ¬ c = a := by omega
      obtain ⟨w5, hcl, hr5, ho5⟩ := run_clear_e6 (P := Try.prog) (c := c - a) wr 24 32 0 Try.underlying24 zero_op RQ9.out (i := a) (n := n - a) (by have := HRL.out; omega) (by rw [HRL.out])
      have R5 := Lib.hid hr5
      have B5 := Lib.hid (BB.out.trans (ho5.below hbase))
      clear hE hEl hr5 ho5
      go_wp2_with fail
      go_ret
      rw [HEL.out, ← HE.out]
      exact ⟨rfl, R5.out, B5.out⟩
theorem lib_delete0 {w : World} (g : Nat) (sb : Nat) (eg : ∀ args w, (callFunc g args).run Try.prog w = .ok (.enter g args) w) :
    Calls Try.prog 15 #[.slice none 0 0, .func (.func g) #[] #[.pointer (some ⟨sb, 0, none⟩)]] w fun e w' => e = .returned (.slice none 0 0) ∧ Below w.heap.size w w' := by
  have HC := Lib.hid (lib_index2 (w := w) (n := 0) (c := 0) (base := w.heap.size) (l := []) g sb (fun _ => false) eg (fun W k y h => by simp at h) (by omega) (Vs.nil_ w w.heap.size none) (Nat.le_refl _) (Nat.le_refl _))
  go_enter Try.func15, Try.ntmps15
  go_wp2_with fail
  refine HC.out.mono ?_
  rintro e W1 ⟨⟨z, rfl, hz⟩, hb⟩
  have HB1 := Lib.hid hb
  rcases hz with ⟨rfl, hz⟩ | ⟨k, y, rfl, hx, hy, hz⟩
  · clear hz hb
    go_wp2_with fail
    go_ret
    exact ⟨rfl, HB1.out⟩
  · simp at hx
/-! OpsOf -/
def opP (o : Int) (y : E6) : Bool := !decide (y.b = o)
def opL (o : Int) (l : List E6) : List E6 := l.filter fun y => !opP o y
theorem op_len (o : Int) (l : List E6) : (opL o l).length ≤ l.length := List.length_filter_le _ _
theorem enters_rel : ∀ (args : Array Value) (w : World), (callFunc 17 args).run Try.prog w = .ok (.enter 17 args) w := enters_of Try.func17 (by kernel_rfl) rfl
theorem is_not {w : World} {p : Nat} {o : Int} (x : E6) (hp : p < w.heap.size) (hc : w.cell? ⟨p, 0, none⟩ = some (.int .i64 o)) :
    Calls Try.prog 17 #[.agg #[.int .i64 x.a, .int .i64 x.b, .int .i64 x.c, .int .i64 x.d, .int .i64 x.e, .int .i64 x.f], .pointer (some ⟨p, 0, none⟩)] w fun e w' => e = .returned (.bool (opP o x)) ∧ Below w.heap.size w w' := by
  have hn0 := new1 w (.cells #[.int .i64 x.a, .int .i64 x.b, .int .i64 x.c, .int .i64 x.d, .int .i64 x.e, .int .i64 x.f] 32)
  have hc2 := (hn0.cell (p := ⟨p, 0, none⟩) hp).trans hc
  obtain ⟨z0, z1, z2, z3, z4, z5⟩ := atFlat (boxed w x 32)
  go_enter Try.func17, Try.ntmps17
  by_cases h : x.b = o
  · have t : (x.b == o) = true := by simpa using h
    have t2 : (x.b != o) = false := by simpa using h
    have HH := Lib.hid h
    clear h
    go_wp2_with fail
    go_ret
    exact ⟨Go.Proofs.Ytjnlbhmddhpmaab.vers.ret_b (by unfold opP; rw [decide_eq_true HH.out]; rfl), hn0⟩
  · have t : (x.b == o) = false := by simpa using h
    have t2 : (x.b != o) = true := by simpa using h
    have HH := Lib.hid h
    clear h
    go_wp2_with fail
    go_ret
    exact ⟨Go.Proofs.Ytjnlbhmddhpmaab.vers.ret_b (by unfold opP; rw [decide_eq_false HH.out]; rfl), hn0⟩
theorem op_nil (o : Int) : opL o [] = [] := rfl
set_option maxRecDepth 100000 in
set_option maxHeartbeats 1600000 in
theorem impl_oo {w : World} {B n c : Nat} {A : Option Addr} {l : List E6} (o : Int) (hn : n ≤ 2097152) (h1 : Vs w B A n l) (hB : B ≤ w.heap.size) :
    Calls Try.prog 8 #[.slice A n c, .int .i64 o] w fun e w' => ∃ A' c', e = .returned (.slice A' (opL o l).length c') ∧ w'.ownsRow w.heap.size 32 6 (.slice A' (opL o l).length c') (opL o l).length (flat (opL o l)) ∧ Below w.heap.size w w' := by
  have H1 := Lib.hid h1
  have HLN := Lib.hid h1.1
  clear h1
  have hmf : ∀ (fn : Fn) (first cap : Array Value) (w : World), (Instr.makeFunc fn first cap).run Try.prog w = .ok (.func fn first cap) w := fun _ _ _ _ => rfl
  go_enter Try.func8, Try.ntmps8
  go_wp2_with fail
  have hb0 := new1 w (.cells #[.int .i64 o] 3)
  have hc0 : (w.alloc (.cells #[.int .i64 o] 3)).cell? ⟨w.heap.size, 0, none⟩ = some (.int .i64 o) := World.cell?_alloc_mark w _ 3 _ 0
  have hs0 : w.heap.size + 1 ≤ (w.alloc (.cells #[.int .i64 o] 3)).heap.size := by simp
  generalize w.alloc _ = W0 at hb0 hc0 hs0 ⊢
  have HB0 := Lib.hid hb0
  have HC0 := Lib.hid hc0
  clear hb0 hc0
  refine (clone_k hn (H1.out.below (below_le HB0.out hB)) (by omega)).mono ?_
  rintro e W1 ⟨A', c', rfl, ho, hb⟩
  have HB1 := Lib.hid (HB0.out.trans (hb.mono HB0.out.size))
  have HC1 := Lib.hid ((hb.cell (p := ⟨w.heap.size, 0, none⟩) (by simp only; omega)).trans HC0.out)
  have hs1 := hb.size
  clear hb HC0
  obtain ⟨_, ⟨hv, hR⟩ | ⟨blk, cap, hv, hbase, hrw⟩⟩ := own_rw ho
  · injection hv with e1 e2 e3
    subst e1 e2 e3
    subst hR
    clear ho
    go_wp2_with fail
    refine (lib_delete0 17 w.heap.size enters_rel).mono ?_
    rintro e W3 ⟨rfl, hb⟩
    have HB3 := Lib.hid (HB1.out.trans (hb.mono HB1.out.size))
    clear hb
    go_wp2_with fail
    go_ret
    rw [op_nil]
    exact ⟨none, 0, rfl, World.ownsRow_nil _ _ _ _, HB3.out⟩
  · injection hv with e1 e2 e3
    subst e1 e3
    have RW := Lib.hid hrw
    clear ho hrw e2
    go_wp2_with fail
    refine (lib_delete (w := W1) (base := w.heap.size + 1) (l := l) 17 w.heap.size (opP o) enters_rel ?_ (by omega) HLN.out RW.out (by omega)).mono ?_
    · intro W k y hx hbW
      exact is_not y (by have := hbW.size; omega) ((hbW.cell (p := ⟨w.heap.size, 0, none⟩) (by simp only; omega)).trans HC1.out)
    rintro e W3 ⟨rfl, hr3, hb3⟩
    have R3 := Lib.hid hr3
    have HB3 := Lib.hid (HB1.out.trans (hb3.mono (by omega)))
    clear hr3 hb3
    go_wp2_with fail
    go_ret
    exact ⟨_, _, rfl, R3.out.own (by omega), HB3.out⟩
theorem op_step {l : List E6} {o : Int} {k : Nat} {y : E6} (hx : l[k]? = some y) (h : y.b = o) : opL o (l.take k) ++ [y] = opL o (l.take (k + 1)) := by
  rw [List.take_add_one, hx]
  simp [opL, opP, List.filter_append, h]
theorem op_skip {l : List E6} {o : Int} {k : Nat} {y : E6} (hx : l[k]? = some y) (h : y.b ≠ o) : opL o (l.take k) = opL o (l.take (k + 1)) := by
  rw [List.take_add_one, hx]
  simp [opL, opP, List.filter_append, h]
theorem op_small (o : Int) (l : List E6) (k : Nat) : (opL o (l.take k)).length ≤ k := Nat.le_trans (op_len o _) (by rw [List.length_take]; omega)
theorem one_vs {w : World} {x : E6} {b : Nat} (h : At w b 0 x) : Vs w (b + 1) (some ⟨b, 0, none⟩) 1 [x] := ⟨rfl, fun _ => ⟨b, 0, rfl, by omega, fun k y hy => by
  have hk := lt_get hy
  obtain rfl : k = 0 := by simpa using hk
  simp at hy
  subst hy
  exact h⟩⟩
theorem grown_l {w w' : World} {base n : Nat} {v : Value} {xs : List Value} (ho : w.ownsRow base 32 6 v n xs) (hg : w.grownBy w' v.ownBlock) (hb : base ≤ w.heap.size) : Below base w w' :=
  (Below.refl _ _).grown hg hb fun q hq => (ho.lt q hq).1
set_option maxRecDepth 100000 in
set_option maxHeartbeats 3200000 in
theorem spec_oo {w : World} {B n c : Nat} {A : Option Addr} {l : List E6} (o : Int) (hn : n ≤ 2097152) (h1 : Vs w B A n l) (hB : B ≤ w.heap.size) :
    Calls Try.prog 6 #[.slice A n c, .int .i64 o] w fun e w' => ∃ A' c', e = .returned (.slice A' (opL o l).length c') ∧ w'.ownsRow w.heap.size 32 6 (.slice A' (opL o l).length c') (opL o l).length (flat (opL o l)) ∧ Below w.heap.size w w' := by
  have H1 := Lib.hid h1
  have hln := h1.1
  obtain ⟨i0, hi, hz, hs, hby⟩ := info_parts info_op
  have HI := Lib.hid hi
  have HZ := Lib.hid hz
  have HS := Lib.hid hs
  have HBY := Lib.hid hby
  clear h1 hi hz hs hby
  go_enter Try.func6, Try.ntmps6
  go_wp2_with fail
  have hE := own_empty w 32 w.heap.size (Nat.le_refl _)
  have hb0 := new1 w (.cells #[] 32)
  generalize w.alloc _ = W1 at hE hb0 ⊢
  have E1 := Lib.hid hE
  have B1 := Lib.hid hb0
  clear hE hb0
  try go_wp2_with fail
  go_loopw [5, 6] (fun q i wr => ∃ (k m c' : Nat) (A' : Option Addr), k ≤ n ∧ m = (opL o (l.take k)).length ∧ i = .int .i64 k ∧ q = .slice A' m c' ∧ wr.ownsRow w.heap.size 32 6 (.slice A' m c') m (flat (opL o (l.take k))) ∧ Below w.heap.size w wr) (fun _ i _ => n - (intOf i).toNat)
  case atStart => exact ⟨0, 0, 0, _, by omega, rfl, rfl, rfl, by simpa [opL] using E1.out, B1.out⟩
  case round =>
    obtain ⟨k, m, c', A', hk, hm, rfl, rfl, hO, hb⟩ := hrel
    have hmk := op_small o l k
    have HM := Lib.hid hm
    have OW := Lib.hid hO
    have HB := Lib.hid hb
    clear hO hb hm
    have hmk : m ≤ k := by have := HM.out; omega
    by_cases hlt : k < n
    · obtain ⟨b, p, y, rfl, hbB, hx, a0, a1, a2, a3, a4, a5⟩ := (H1.out.below (below_le HB.out hB)).at_ hlt
      have HX := Lib.hid hx
      clear hx
      by_cases hc : y.b = o
      · have t : (y.b == o) = true := by simpa using hc
        have t2 : (y.b != o) = false := by simpa using hc
        have HC := Lib.hid hc
        clear hc
        have hsz := HB.out.size
        have hn1 := new1 wr (.cells #[.int .i64 y.a, .int .i64 y.b, .int .i64 y.c, .int .i64 y.d, .int .i64 y.e, .int .i64 y.f] 32)
        have hO3 := own_keep OW.out hn1
        have hone : Vs (wr.alloc (.cells #[.int .i64 y.a, .int .i64 y.b, .int .i64 y.c, .int .i64 y.d, .int .i64 y.e, .int .i64 y.f] 32)) (wr.heap.size + 1) (some ⟨wr.heap.size, 0, none⟩) 1 [y] := one_vs (boxed wr y 32)
        obtain ⟨v', w4, hr, ho4, hg4⟩ := run_append_e6 (P := Try.prog) (wr.alloc (.cells #[.int .i64 y.a, .int .i64 y.b, .int .i64 y.c, .int .i64 y.d, .int .i64 y.e, .int .i64 y.f] 32)) 24 24 32 i0 _ Try.underlying24 HI.out HZ.out HS.out HBY.out rfl hO3 hone (c := 1) (by omega) (by simp; omega)
        have hb4 : Below w.heap.size w w4 := (HB.out.trans (hn1.mono hsz)).trans (grown_l hO3 hg4 (by simp; omega))
        rw [op_step HX.out HC.out] at ho4
        have HM4 : Hid (m + 1 = (opL o (l.take (k + 1))).length) := Lib.hid (by rw [← op_step HX.out HC.out, List.length_append, ← HM.out]; rfl)
        obtain ⟨A4, c4, rfl, _⟩ := own_vs ho4 HM4.out.symm
        have O4 := Lib.hid ho4
        have L4 := Lib.hid hb4
        clear hO3 hone hn1 ho4 hg4 hb4 hsz
        go_wp2_with (at_builtin; refine Lib.wpList_append_run _ rfl _ _ 24 24 rfl _ _ rfl rfl _ _ hr ?_)
        go_roundw
        case rel => exact ⟨k + 1, m + 1, c4, A4, by omega, HM4.out, by go_num, rfl, O4.out, L4.out⟩
        case measure => simp [intOf]; omega
      · have t : (y.b == o) = false := by simpa using hc
        have t2 : (y.b != o) = true := by simpa using hc
        have HC := Lib.hid hc
        clear hc
        have HM4 : Hid (m = (opL o (l.take (k + 1))).length) := Lib.hid (by rw [← op_skip HX.out HC.out]; exact HM.out)
        have O4 : Hid (wr.ownsRow w.heap.size 32 6 (.slice A' m c') m (flat (opL o (l.take (k + 1))))) := Lib.hid (by rw [← op_skip HX.out HC.out]; exact OW.out)
        go_wp2_with fail
        go_roundw
        case rel => exact ⟨k + 1, m, c', A', by omega, HM4.out, by go_num, rfl, O4.out, HB.out⟩
        case measure => simp [intOf]; omega
    · obtain rfl : n = k := by omega
      have hE : opL o (l.take n) = opL o l := by rw [List.take_of_length_le (by omega)]
      have HM2 : Hid ((opL o l).length = m) := Lib.hid (by rw [← hE]; exact HM.out.symm)
      have HE := Lib.hid hE
      clear hE
      go_wp2_with fail
      go_ret
      rw [HM2.out, ← HE.out]
      exact ⟨_, _, rfl, OW.out, HB.out⟩
end Go.Proofs.Ytjnlbhmddhpmaab.oo
