/- FindTransaction and TransactionIDs of the program and of the model: what each answers. -/
import Derived.Test.YtjnlbhmddhpmaaaGreatEit
import Derived.Test.YtjnlbhmddhpmaaaGreatEg
import Derived.Test.YtjnlbhmddhpmaaaGreatOwi
import Derived.LoopTactic
import Derived.Shelf.Abstract
import Derived.Lib.Overlaps
import Derived.Lib.LazyBuf
import Derived.Lib.AppendZerosOnto
import Derived.Deep.QuietTactic
import Derived.BigQuiet
import Derived.IntWalk
namespace Go.Proofs.YtjnlbhmddhpmaaaGreat.fnd
open Go.ChangeShapes Go.WideShapes Go.ChangeAt Go.RowKit
open Go.Proofs.YtjnlbhmddhpmaaaGreat.el2 Go.Proofs.YtjnlbhmddhpmaaaGreat.tx Go.Proofs.YtjnlbhmddhpmaaaGreat.ts Go.Proofs.YtjnlbhmddhpmaaaGreat.ego Go.Proofs.YtjnlbhmddhpmaaaGreat.eg Go.Proofs.YtjnlbhmddhpmaaaGreat.en Go.Proofs.YtjnlbhmddhpmaaaGreat.eid Go.Proofs.YtjnlbhmddhpmaaaGreat.owi
open Go.Proofs.YtjnlbhmddhpmaaaGreat.mkr (Tr)
open Go.Proofs.YtjnlbhmddhpmaaaGreat.sl (Ver)
open Go.Proofs.YtjnlbhmddhpmaaaGreat.vers (new2 new3)
set_option linter.unusedVariables false
set_option linter.unusedSimpArgs false
set_option linter.constructorNameAsVariable false
theorem ret_n {a b : Int} (h : a = b) : Ending.returned (.int .i64 a) = .returned (.int .i64 b) := by rw [h]
theorem bdrew_n {B : Nat} {w w' : World} (h : Below B w w') (n : Nat) : Below B w (w'.drewN n) := ⟨h.os, h.tape, h.output, h.size, h.block⟩
theorem ne_step {i : Int} {L : List Tr} {k : Nat} {t : Tr} (h : ∀ m t, m < k → L[m]? = some t → t.x.i ≠ i) (hx : L[k]? = some t) (ht : t.x.i ≠ i) : ∀ m t, m < k + 1 → L[m]? = some t → t.x.i ≠ i := fun m u hm hu => by
  by_cases e : m = k
  · subst e; rw [hx] at hu; cases hu; exact ht
  · exact h m u (by omega) hu
theorem grown_i {w w' : World} {base n : Nat} {v : Value} {xs : List Value} (ho : w.ownsRow base 3 1 v n xs) (hg : w.grownBy w' v.ownBlock) (hb : base ≤ w.heap.size) : Below base w w' :=
  (Below.refl _ _).grown hg hb fun q hq => (ho.lt q hq).1
theorem own_keep {w w' : World} {base n size : Nat} {e : TypeId} {v : Value} {xs : List Value} (h : w.ownsRow base e size v n xs) (hb : Below w.heap.size w w') : w'.ownsRow base e size v n xs :=
  h.kept (row := none) ⟨hb.os, hb.tape, hb.output, hb.size, fun i hi _ => hb.block i hi⟩ (by cases v.ownBlock <;> simp)
theorem own_more {w : World} {base base' n size : Nat} {e : TypeId} {v : Value} {xs : List Value} (h : w.ownsRow base e size v n xs) (hb : base' ≤ base) : w.ownsRow base' e size v n xs :=
  ⟨h.1, h.2.imp id fun ⟨g, cap, cur, e, h1, r⟩ => ⟨g, cap, cur, e, by omega, r⟩⟩
theorem own_made0 (W : World) (base : Nat) (hb : base ≤ W.heap.size) : (W.alloc (.cells #[] 3)).ownsRow base 3 1 (.slice (some ⟨W.heap.size, 0, none⟩) 0 0) 0 (mi []) :=
  ⟨rfl, .inr ⟨W.heap.size, 0, #[], rfl, hb, heap_alloc_new W _, Nat.le_refl _, by unfold maxLen; omega, rfl, rfl⟩⟩
theorem mi_snoc (l : List Int) (x : Int) : mi l ++ mi [x] = mi (l ++ [x]) := by simp [mi]
theorem ids_le {s : Int} {L : List Tr} {k n : Nat} (h : L.length = n) (hk : k ≤ n) : (idsT s (L.take k)).length ≤ k := by
  have := ids_len s (L.take k)
  rw [List.length_take] at this
  omega
/-! the model -/
set_option maxRecDepth 100000 in
set_option maxHeartbeats 1600000 in
theorem spec_fnd {w : World} {B n1 c1 n2 c2 n3 c3 n4 c4 : Nat} {A1 A2 A3 A4 : Option Addr} {C : List (List Ver)} {L : List Tr} {K X : List E2} (q : Bool) (z : Int) (id : Int) (hn1 : n1 ≤ 2097152) (hn2 : n2 ≤ 2097152) (hn3 : n3 ≤ 2097152) (hn4 : n4 ≤ 2097152) (h : ER w B A1 n1 C A2 n2 L A3 n3 K A4 n4 X) (hB : B ≤ w.heap.size) :
    Calls Tryz.prog 40 #[.agg #[.bool q, .slice A1 n1 c1, .slice A2 n2 c2, .slice A3 n3 c3, .slice A4 n4 c4, .int .i64 z], .int .i64 id] w fun e w' => e = .returned (.int .i64 (fndT id L 0)) ∧ Below w.heap.size w w' := by
  have hln := h.t.1
  have HT := Lib.hid h.t
  clear h
  have hb := new1 w (.cells #[.bool q, .slice A1 n1 c1, .slice A2 n2 c2, .slice A3 n3 c3, .slice A4 n4 c4, .int .i64 z] 39)
  obtain ⟨t0, t1, t2, t3, t4, t5⟩ := EB.new w q (.slice A1 n1 c1) (.slice A2 n2 c2) (.slice A3 n3 c3) (.slice A4 n4 c4) z 39
  go_enter Tryz.func40, Tryz.ntmps40
  go_wp2_with fail
  generalize w.alloc _ = W0 at hb t0 t1 t2 t3 t4 t5 ⊢
  have HB := Lib.hid hb
  have H1 := Lib.hid (HT.out.below (Go.Proofs.YtjnlbhmddhpmaaaGreat.el2.below_le hb hB))
  clear hb t0 t1 t3 t4 t5
  go_loop [5] (fun i => ∃ k : Nat, k ≤ n2 ∧ i = .int .i64 k ∧ (∀ m t, m < k → L[m]? = some t → t.x.i ≠ id)) (fun i => n2 - (intOf i).toNat)
  case atStart => exact ⟨0, by omega, rfl, fun m t h => absurd h (by omega)⟩
  case round =>
    obtain ⟨k, hk, rfl, hP⟩ := hrel
    have HP := Lib.hid hP
    clear hP
    by_cases hlt : k < n2
    · obtain ⟨b, o, t, P1, p1, pc, P2, p2, qc, rfl, hbB, hx, ⟨a0, a1, a2, a3, a4, a5, a6, a7, a8⟩, hp1, hp2, hv, hu⟩ := H1.out.at_ hlt
      have HX := Lib.hid hx
      clear hx hv hu
      by_cases hc : t.x.i = id
      · have tt : (t.x.i == id) = true := by simpa using hc
        have HC := Lib.hid hc
        clear hc
        go_wp2_with fail
        go_ret
        exact ⟨ret_n (fnd_hit HP.out HX.out HC.out).symm, HB.out⟩
      · have tt : (t.x.i == id) = false := by simpa using hc
        have HC := Lib.hid hc
        clear hc
        go_wp2_with fail
        go_round
        case rel => exact ⟨k + 1, by omega, by go_num, ne_step HP.out HX.out HC.out⟩
        case measure => simp [intOf]; omega
    · have HE : Hid (fndT id L 0 = -1) := Lib.hid (fnd_none fun m t hm => HP.out m t (by omega))
      go_wp2_with fail
      go_ret
      exact ⟨ret_n HE.out.symm, HB.out⟩
/-! the program -/
theorem mt_num (x : Hd) (u v : Value) (w : World) : (method 263 55 (.agg #[.int .i64 x.i, .int .i64 x.s, .int .i64 x.t, .int .i64 x.b, .int .i64 x.l, .int .i64 x.h, .int .i64 x.c, u, v]) "loop.example/g01924/impl.number").run Tryz.prog w = .ok (121, .agg #[.int .i64 x.i, .int .i64 x.s, .int .i64 x.t, .int .i64 x.b, .int .i64 x.l, .int .i64 x.h, .int .i64 x.c, u, v]) w := by kernel_rfl
theorem na_num (x : Hd) (u v : Value) (w : World) : (nilAhead 263 55 (.agg #[.int .i64 x.i, .int .i64 x.s, .int .i64 x.t, .int .i64 x.b, .int .i64 x.l, .int .i64 x.h, .int .i64 x.c, u, v]) "loop.example/g01924/impl.number").run Tryz.prog w = .ok (some false) w := by kernel_rfl
theorem number_t (x : Hd) (u v : Value) (w : World) :
    Calls Tryz.prog 121 #[.agg #[.int .i64 x.i, .int .i64 x.s, .int .i64 x.t, .int .i64 x.b, .int .i64 x.l, .int .i64 x.h, .int .i64 x.c, u, v]] w fun e w' => e = .returned (.int .i64 x.i) ∧ Below w.heap.size w w' := by
  have hb := new1 w (.cells #[.int .i64 x.i, .int .i64 x.s, .int .i64 x.t, .int .i64 x.b, .int .i64 x.l, .int .i64 x.h, .int .i64 x.c, u, v] 55)
  go_enter Tryz.func121, Tryz.ntmps121
  go_wp2_with fail
  go_ret
  exact ⟨rfl, hb⟩
theorem roster_e (q : Bool) (u1 u3 u4 : Value) (A2 : Option Addr) (n2 c2 : Nat) (z : Int) (w : World) :
    Calls Tryz.prog 46 #[.agg #[.bool q, u1, .slice A2 n2 c2, u3, u4, .int .i64 z]] w fun e w' => e = .returned (.slice A2 n2 c2) ∧ Below w.heap.size w w' := by
  have hb := new1 w (.cells #[.bool q, u1, .slice A2 n2 c2, u3, u4, .int .i64 z] 39)
  go_enter Tryz.func46, Tryz.ntmps46
  go_wp2_with fail
  go_ret
  exact ⟨rfl, hb⟩
theorem keep_s {w : World} {sb : Nat} {s : Int} (x : Hd) (u v : Value) (hsb : sb < w.heap.size) (hc : w.cell? ⟨sb, 0, none⟩ = some (.int .i64 s)) :
    Calls Tryz.prog 72 #[.agg #[.int .i64 x.i, .int .i64 x.s, .int .i64 x.t, .int .i64 x.b, .int .i64 x.l, .int .i64 x.h, .int .i64 x.c, u, v], .pointer (some ⟨sb, 0, none⟩)] w fun e w' => e = .returned (.bool (decide (x.t = s))) ∧ Below w.heap.size w w' := by
  have hb := new1 w (.cells #[.int .i64 x.i, .int .i64 x.s, .int .i64 x.t, .int .i64 x.b, .int .i64 x.l, .int .i64 x.h, .int .i64 x.c, u, v] 55)
  have hc2 := (hb.cell (p := ⟨sb, 0, none⟩) hsb).trans hc
  go_enter Tryz.func72, Tryz.ntmps72
  by_cases h : x.t = s
  · have t : (x.t == s) = true := by simpa using h
    have HH := Lib.hid h
    clear h
    go_wp2_with fail
    go_ret
    exact ⟨Go.Proofs.YtjnlbhmddhpmaaaGreat.vers.ret_b (decide_eq_true HH.out).symm, hb⟩
  · have t : (x.t == s) = false := by simpa using h
    have HH := Lib.hid h
    clear h
    go_wp2_with fail
    go_ret
    exact ⟨Go.Proofs.YtjnlbhmddhpmaaaGreat.vers.ret_b (decide_eq_false HH.out).symm, hb⟩
theorem enters_ids : ∀ (args : Array Value) (w : World), (callFunc 72 args).run Tryz.prog w = .ok (.enter 72 args) w := enters_of Tryz.func72 (by kernel_rfl) rfl
set_option maxRecDepth 100000 in
set_option maxHeartbeats 3200000 in
theorem where_r {w : World} {B M n c sb : Nat} {A : Option Addr} {L : List Tr} (s : Int) (hsb : sb < w.heap.size) (hcs : w.cell? ⟨sb, 0, none⟩ = some (.int .i64 s)) (hn : n ≤ 2097152) (h1 : Ts M w B A n L) (hB : B ≤ w.heap.size) :
    Calls Tryz.prog 71 #[.slice A n c, .func (.func 72) #[] #[.pointer (some ⟨sb, 0, none⟩)]] w fun e w' => ∃ A' c', e = .returned (.slice A' (idsT s L).length c') ∧ w'.ownsRow w.heap.size 3 1 (.slice A' (idsT s L).length c') (idsT s L).length (mi (idsT s L)) ∧ Below w.heap.size w w' := by
  have hln := h1.1
  have H1 := Lib.hid h1
  have HCS := Lib.hid hcs
  have eg := enters_ids
  obtain ⟨i0, hi, hz, hs, hby⟩ := info_parts info_i
  have HI := Lib.hid hi
  have HZ := Lib.hid hz
  have HS := Lib.hid hs
  have HBY := Lib.hid hby
  clear hi hz hs hby h1 hcs
  go_enter Tryz.func71, Tryz.ntmps71
  go_wp2_with fail
  go_loopw [5, 10] (fun o i wr => ∃ (k m c' : Nat) (A' : Option Addr), k ≤ n ∧ i = .int .i64 k ∧ o = .slice A' m c' ∧ m = (idsT s (L.take k)).length ∧ wr.ownsRow w.heap.size 3 1 (.slice A' m c') m (mi (idsT s (L.take k))) ∧ Below w.heap.size w wr) (fun _ i _ => n - (intOf i).toNat)
  case atStart => exact ⟨0, 0, 0, none, by omega, rfl, rfl, rfl, by simpa [idsT, mi] using World.ownsRow_nil w w.heap.size 3 1, Below.refl _ _⟩
  case round =>
    obtain ⟨k, m, c', A', hk, rfl, rfl, hm, hO, hB9⟩ := hrel
    have HM := Lib.hid hm
    have hmk : m ≤ n := by have := ids_le (s := s) hln hk; omega
    have OW := Lib.hid hO
    have HB9 := Lib.hid hB9
    have hsz := hB9.size
    clear hm hO hB9
    by_cases hlt : k < n
    · obtain ⟨b, o, t, P1, p1, pc, P2, p2, qc, rfl, hbB, hx, ⟨a0, a1, a2, a3, a4, a5, a6, a7, a8⟩, hp1, hp2, hv, hu⟩ := (H1.out.below (Go.Proofs.YtjnlbhmddhpmaaaGreat.el2.below_le HB9.out hB)).at_ hlt
      have HX := Lib.hid hx
      have hn0 := new1 wr (.cells #[.int .i64 t.x.i, .int .i64 t.x.s, .int .i64 t.x.t, .int .i64 t.x.b, .int .i64 t.x.l, .int .i64 t.x.h, .int .i64 t.x.c, .slice P1 p1 pc, .slice P2 p2 qc] 55)
      have tb0 := TB.new wr t.x P1 p1 pc P2 p2 qc 55
      have hz0 : (wr.alloc (.cells #[.int .i64 t.x.i, .int .i64 t.x.s, .int .i64 t.x.t, .int .i64 t.x.b, .int .i64 t.x.l, .int .i64 t.x.h, .int .i64 t.x.c, .slice P1 p1 pc, .slice P2 p2 qc] 55)).heap.size = wr.heap.size + 1 := by simp
      have mt := mt_num t.x (.slice P1 p1 pc) (.slice P2 p2 qc)
      have na := na_num t.x (.slice P1 p1 pc) (.slice P2 p2 qc)
      clear hx hv hu
      by_cases hc : t.x.t = s
      · have HC := Lib.hid hc
        have HST := Lib.hid (ids_hit HX.out hc)
        have HD : Hid (decide (t.x.t = s) = true) := Lib.hid (decide_eq_true hc)
        clear hc
        go_wp2_with fail
        generalize wr.alloc _ = W1 at hn0 tb0 hz0 ⊢
        have HB1 := Lib.hid (HB9.out.trans (hn0.mono hsz))
        have OW1 := Lib.hid (own_keep OW.out hn0)
        have TB1 := Lib.hid tb0
        clear hn0 tb0
        refine (keep_s (sb := sb) t.x _ _ (by omega) ((HB1.out.cell (p := ⟨sb, 0, none⟩) hsb).trans HCS.out)).mono ?_
        rintro e W2 ⟨rfl, hb⟩
        rw [HD.out]
        have hs2 := hb.size
        have HB2 := Lib.hid (HB1.out.trans (hb.mono HB1.out.size))
        have OW2 := Lib.hid (own_keep OW1.out hb)
        have TB2 := Lib.hid (TB1.out.keep (by omega) hb)
        clear hb
        obtain ⟨t0, t1, t2, t3, t4, t5, t6, t7, t8⟩ := TB2.out
        go_wp2_with fail
        clear t0 t1 t2 t3 t4 t5 t6 t7 t8
        refine (number_t t.x _ _ W2).mono ?_
        rintro e W3 ⟨rfl, hb⟩
        have hs3 := hb.size
        have HB3 := Lib.hid (HB2.out.trans (hb.mono HB2.out.size))
        have OW3 := Lib.hid (own_keep OW2.out hb)
        clear hb
        have hn1 := new1 W3 (.cells #[.int .i64 t.x.i] 3)
        have hO3 := own_keep OW3.out hn1
        have hone : (W3.alloc (.cells #[.int .i64 t.x.i] 3)).cell? ⟨W3.heap.size, 0, none⟩ = some (.int .i64 t.x.i) := World.cell?_alloc_mark W3 _ 3 _ 0
        obtain ⟨v', w4, hr, ho4, hg4⟩ := run_append_i (P := Tryz.prog) (W3.alloc (.cells #[.int .i64 t.x.i] 3)) 99 99 3 i0 _ Tryz.underlying99 HI.out HZ.out HS.out HBY.out rfl hO3 hone (c := 1) (by omega) (by simp; omega)
        have hb4 : Below w.heap.size W3 w4 := (hn1.mono (by omega)).trans (grown_i hO3 hg4 (by simp; omega))
        rw [← HST.out] at ho4
        obtain ⟨A4', c4', rfl⟩ := own_form ho4
        have HM2 : Hid (m + 1 = (idsT s (L.take (k + 1))).length) := Lib.hid (by rw [HST.out, List.length_append, ← HM.out]; rfl)
        have O4 := Lib.hid ho4
        have B4 := Lib.hid (HB3.out.trans hb4)
        clear hO3 hone hn1 ho4 hg4 hb4
        go_wp2_with (at_builtin; refine Lib.wpList_append_run _ rfl _ _ 99 99 rfl _ _ rfl rfl _ _ hr ?_)
        go_roundw
        case rel => exact ⟨k + 1, m + 1, c4', A4', by omega, by go_num, rfl, HM2.out, O4.out, B4.out⟩
        case measure => simp [intOf]; omega
      · have HST := Lib.hid (ids_miss HX.out hc)
        have HD : Hid (decide (t.x.t = s) = false) := Lib.hid (decide_eq_false hc)
        clear hc
        go_wp2_with fail
        generalize wr.alloc _ = W1 at hn0 tb0 hz0 ⊢
        have HB1 := Lib.hid (HB9.out.trans (hn0.mono hsz))
        have OW1 := Lib.hid (own_keep OW.out hn0)
        clear hn0 tb0
        refine (keep_s (sb := sb) t.x _ _ (by omega) ((HB1.out.cell (p := ⟨sb, 0, none⟩) hsb).trans HCS.out)).mono ?_
        rintro e W2 ⟨rfl, hb⟩
        rw [HD.out]
        have HB2 := Lib.hid (HB1.out.trans (hb.mono HB1.out.size))
        have OW2 := Lib.hid (own_keep OW1.out hb)
        clear hb
        go_wp2_with fail
        go_roundw
        case rel => exact ⟨k + 1, m, c', A', by omega, by go_num, rfl, by rw [HST.out]; exact HM.out, by rw [HST.out]; exact OW2.out, HB2.out⟩
        case measure => simp [intOf]; omega
    · obtain rfl : n = k := by omega
      have HE := Lib.hid (ids_all (s := s) hln)
      go_wp2_with fail
      go_ret
      rw [← HE.out, ← HM.out]
      exact ⟨_, _, rfl, OW.out, HB9.out⟩
theorem impl_ids {w : World} {B n1 c1 n2 c2 n3 c3 n4 c4 : Nat} {A1 A2 A3 A4 : Option Addr} {C : List (List Ver)} {L : List Tr} {K X : List E2} (q : Bool) (z : Int) (s : Int) (hn1 : n1 ≤ 2097152) (hn2 : n2 ≤ 2097152) (hn3 : n3 ≤ 2097152) (hn4 : n4 ≤ 2097152) (h : ER w B A1 n1 C A2 n2 L A3 n3 K A4 n4 X) (hB : B ≤ w.heap.size) :
    Calls Tryz.prog 53 #[.agg #[.bool q, .slice A1 n1 c1, .slice A2 n2 c2, .slice A3 n3 c3, .slice A4 n4 c4, .int .i64 z], .int .i64 s] w fun e w' => ∃ A' c', e = .returned (.slice A' (idsT s L).length c') ∧ w'.ownsRow w.heap.size 3 1 (.slice A' (idsT s L).length c') (idsT s L).length (mi (idsT s L)) ∧ Below w.heap.size w w' := by
  have HT := Lib.hid h.t
  clear h
  have hmf : ∀ (fn : Fn) (first cap : Array Value) (w : World), (Instr.makeFunc fn first cap).run Tryz.prog w = .ok (.func fn first cap) w := fun _ _ _ _ => rfl
  have hb := new2 w (.cells #[.bool q, .slice A1 n1 c1, .slice A2 n2 c2, .slice A3 n3 c3, .slice A4 n4 c4, .int .i64 z] 39) (.cells #[.int .i64 s] 3)
  have hs0 : ((w.alloc (.cells #[.bool q, .slice A1 n1 c1, .slice A2 n2 c2, .slice A3 n3 c3, .slice A4 n4 c4, .int .i64 z] 39)).alloc (.cells #[.int .i64 s] 3)).heap.size = w.heap.size + 2 := by simp
  have hcs : ((w.alloc (.cells #[.bool q, .slice A1 n1 c1, .slice A2 n2 c2, .slice A3 n3 c3, .slice A4 n4 c4, .int .i64 z] 39)).alloc (.cells #[.int .i64 s] 3)).cell? ⟨w.heap.size + 1, 0, none⟩ = some (.int .i64 s) := by
    have := World.cell?_alloc_mark (w.alloc (.cells #[.bool q, .slice A1 n1 c1, .slice A2 n2 c2, .slice A3 n3 c3, .slice A4 n4 c4, .int .i64 z] 39)) #[.int .i64 s] 3 (0, 0) 0
    rw [show (w.alloc (.cells #[.bool q, .slice A1 n1 c1, .slice A2 n2 c2, .slice A3 n3 c3, .slice A4 n4 c4, .int .i64 z] 39)).heap.size = w.heap.size + 1 by simp] at this
    exact this
  go_enter Tryz.func53, Tryz.ntmps53
  go_wp2_with fail
  generalize (w.alloc _).alloc _ = W0 at hb hs0 hcs ⊢
  have HB := Lib.hid hb
  have HCS := Lib.hid hcs
  clear hb hcs
  refine (roster_e q _ _ _ A2 n2 c2 z W0).mono ?_
  rintro e W1 ⟨rfl, hb⟩
  have hs1 := hb.size
  have HB1 := Lib.hid (HB.out.trans (hb.mono HB.out.size))
  have HC1 := Lib.hid ((hb.cell (p := ⟨w.heap.size + 1, 0, none⟩) (by simp only; omega)).trans HCS.out)
  clear hb
  go_wp2_with fail
  refine (where_r (c := c2) s (by omega) HC1.out hn2 (HT.out.below (Go.Proofs.YtjnlbhmddhpmaaaGreat.el2.below_le HB1.out hB)) (Nat.le_trans hB HB1.out.size)).mono ?_
  rintro e W2 ⟨A', c', rfl, ho, hb⟩
  have HB2 := Lib.hid (HB1.out.trans (hb.mono HB1.out.size))
  have HO := Lib.hid (own_more ho HB1.out.size)
  clear hb ho
  go_wp2_with fail
  go_ret
  exact ⟨A', c', rfl, HO.out, HB2.out⟩
end Go.Proofs.YtjnlbhmddhpmaaaGreat.fnd
