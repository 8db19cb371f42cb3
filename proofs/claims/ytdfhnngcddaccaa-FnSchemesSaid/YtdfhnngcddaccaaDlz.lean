/- The model's drawn locks: l10Locks: a list of locks in memory of its own (needs neither the table nor AcquireLock). -/
import Derived.Test.YtdfhnngcddaccaaDr
import Derived.Test.YtdfhnngcddaccaaLkd
import Derived.Test.YtdfhnngcddaccaaPw
import Derived.Deep.RegionLaw
namespace Go.Proofs.Ytdfhnngcddaccaa.dlz
open Go.ChangeShapes Go.WideShapes Go.ChangeAt Go.RowKit
open Go.Proofs.Ytdfhnngcddaccaa.el2 Go.Proofs.Ytdfhnngcddaccaa.seq Go.Proofs.Ytdfhnngcddaccaa.ap Go.Proofs.Ytdfhnngcddaccaa.lk Go.Proofs.Ytdfhnngcddaccaa.pw
open Go.Proofs.Ytdfhnngcddaccaa.cur (CurAt CodeAt Kp Only below_calls pick_calls new_calls cur_new)
open Go.Proofs.Ytdfhnngcddaccaa.dr (once_calls)
open Go.Proofs.Ytdfhnngcddaccaa.cl (own_empty)
open Go.Proofs.Ytdfhnngcddaccaa.lkd (one_vs info_lk)
set_option linter.unusedVariables false
set_option linter.unusedSimpArgs false
theorem own_gr {w w' : World} {base n size : Nat} {e : TypeId} {v : Value} {xs : List Value} {row : Option Nat} (h : w.ownsRow base e size v n xs) (hg : w.grownBy w' row) (hne : ∀ g, v.ownBlock = some g → some g ≠ row) : w'.ownsRow base e size v n xs :=
  ⟨h.1, by
    rcases h.2 with h0 | ⟨g, cap, cur, e1, h1, h2, h3⟩
    · exact .inl h0
    · exact .inr ⟨g, cap, cur, e1, h1, (hg.block g (Array.getElem?_eq_some_iff.1 h2).1 (hne g (by rw [e1]; rfl))).trans h2, h3⟩⟩
theorem own_more {w : World} {base base' n size : Nat} {e : TypeId} {v : Value} {xs : List Value} (h : w.ownsRow base e size v n xs) (hb : base' ≤ base) : w.ownsRow base' e size v n xs :=
  ⟨h.1, h.2.imp id fun ⟨g, cap, cur, e1, h1, h2, h3⟩ => ⟨g, cap, cur, e1, Nat.le_trans hb h1, h2, h3⟩⟩
/-- an append onto a row of the call's own keeps what lies below, and what lies in another block -/
theorem app_kz (V : World) {base k n c0 c B : Nat} {A0 A : Option Addr} {xs l : List E2} (ho : V.ownsRow base 99 2 (.slice A0 k c0) k (flat xs)) (hv : Vs V B A n l) (hk : k + n ≤ 4194304) (hb : base ≤ V.heap.size) :
    ∃ A' c' V', (Builtin.append_ #[39, 39] 39 #[.slice A0 k c0, .slice A n c]).run Try.prog V = .ok (.slice A' (k + n) c') V' ∧ V'.ownsRow base 99 2 (.slice A' (k + n) c') (k + n) (flat (xs ++ l)) ∧ V.grownBy V' (Value.slice A0 k c0).ownBlock ∧ Below base V V' := by
  obtain ⟨i0, hi, hz, hs, hby⟩ := info_parts info_lk
  obtain ⟨v', w', hr, ho', hg⟩ := run_append_e2 (P := Try.prog) V 39 39 99 i0 _ Try.underlying39 hi hz hs hby rfl ho hv (c := c) hk hb
  have hl : (xs ++ l).length = k + n := by have := ho'.1; rw [flat_len] at this; omega
  obtain ⟨A', c', rfl, _⟩ := own_vs ho' hl
  refine ⟨A', c', w', hr, ho', hg, ((Below.refl base V).grown hg hb fun q hq => ?_)⟩
  rcases ho.2 with ⟨e, _⟩ | ⟨g, cap, cur, e, hg', _⟩
  · rw [e] at hq; simp [Value.ownBlock] at hq
  · rw [e] at hq; simp [Value.ownBlock] at hq; omega
theorem list_of {W : World} {g n : Nat} {t : TypeId} {vs : List Int} {fz : Nat × Nat} (h : W.heap[g]? = some (.cells (vs.map (fun v => Value.int .i64 v)).toArray t fz)) (hn : vs.length = n) (hr : ∀ v ∈ vs, -1 ≤ v ∧ v ≤ 1000) : ∀ j, j < n → ∃ v : Int, W.cell? ⟨g, j, none⟩ = some (.int .i64 v) ∧ -1 ≤ v ∧ v ≤ 1000 := by
  intro j hj
  have hjl : j < vs.length := by omega
  refine ⟨vs[j], ?_, hr _ (List.getElem_mem hjl)⟩
  simp [World.cell?, h, hjl]
theorem list_0 (W : World) : ∀ j, j < 3 → ∃ v : Int, (W.alloc (.cells #[.int .i64 0, .int .i64 9, .int .i64 10] 3)).cell? ⟨W.heap.size, j, none⟩ = some (.int .i64 v) ∧ -1 ≤ v ∧ v ≤ 1000 :=
  list_of (vs := [0, 9, 10]) (heap_alloc_new W _) rfl (by simp)
/-- where a drawing has come to: the cursor, the row of locks -/
structure DLk (w : World) (B b : Nat) (a : Option Addr) (len cap : Nat) (A : Option Addr) (n c : Nat) (l : List E2) (W : World) : Prop where
  cur : CurAt W b a len cap
  own : W.ownsRow w.heap.size 99 2 (.slice A n c) n (flat l)
  kp : Kp B b w W
section
variable {w W W' : World} {B b len cap n c : Nat} {a A : Option Addr} {l : List E2}
theorem DLk.code (h : DLk w B b a len cap A n c l W) (hc : CodeAt w B a len) : CodeAt W B a len := hc.below (Nat.le_refl _) h.kp.bel
theorem DLk.only (h : DLk w B b a len cap A n c l W) (hcu : CurAt W' b a len cap) (ho : Only b W W') (hB : B ≤ b) (hb : b < w.heap.size) : DLk w B b a len cap A n c l W' where
  cur := hcu
  own := own_gr h.own ho.grownBy fun g hg e => by have := (h.own.lt g hg).1; injection e with e; omega
  kp := h.kp.only ho hB
theorem DLk.size (h : DLk w B b a len cap A n c l W) : w.heap.size ≤ W.heap.size := h.kp.size
end
set_option maxRecDepth 100000 in
set_option maxHeartbeats 3200000 in
theorem draw_lks (b B : Nat) (a : Option Addr) (len cap : Nat) (w : World) (hl : len ≤ 1048576) (hc : CurAt w b a len cap) (hcode : CodeAt w B a len) (hB : B ≤ b) :
    Calls Try.prog 42 #[.pointer (some ⟨b, 0, none⟩)] w fun e w' => ∃ (A : Option Addr) (n c : Nat) (l : List E2), e = .returned (.slice A n c) ∧ n ≤ 7 ∧ l.length = n ∧ DLk w B b a len cap A n c l w' := by
  have HC := Lib.hid hcode
  have hbw := hc.lt
  have hb0 := new1 w (.cells #[] 99)
  have D0 : Hid (DLk w B b a len cap (some ⟨w.heap.size, 0, none⟩) 0 0 [] (w.alloc (.cells #[] 99))) := Lib.hid ⟨hc.alloc _, own_empty w 99 w.heap.size (Nat.le_refl _), (Kp.refl B b w).alloc (by omega) _⟩
  clear hcode hc hb0
  go_enter Try.func42, Try.ntmps42
  go_wp2_with fail
  go_loopw [3, 4] (fun q i wr => ∃ (k n c : Nat) (A : Option Addr) (l : List E2), k ≤ 6 ∧ n ≤ k ∧ l.length = n ∧ i = .int .i64 k ∧ q = .slice A n c ∧ DLk w B b a len cap A n c l wr) (fun _ i _ => 6 - (intOf i).toNat)
  case atStart => exact ⟨0, 0, 0, _, [], by omega, by omega, rfl, rfl, rfl, D0.out⟩
  case round =>
    obtain ⟨k, n, c, A, l, hk, hnk, hln, rfl, rfl, hD⟩ := hrel
    have HD := Lib.hid hD
    have HLN := Lib.hid hln
    clear hD hln D0
    by_cases hlt : k < 6
    · have t : decide ((k : Int) < 6) = true := decide_eq_true (by omega)
      go_wp2_with fail
      refine (once_calls b B a len cap 3 wr hl HD.out.cur (HD.out.code HC.out) hB (by omega)).mono ?_
      rintro e W1 ⟨q, rfl, hc1, ho1⟩
      have D1 := Lib.hid (HD.out.only hc1 ho1 hB hbw)
      clear hc1 ho1
      cases q with
      | false =>
        go_wp2_with fail
        go_roundw
        case rel => exact ⟨k + 1, n, c, A, l, by omega, by omega, HLN.out, by go_num, rfl, D1.out⟩
        case measure => simp [intOf]; omega
      | true =>
        go_wp2_with fail
        refine (below_calls b B a len cap 4 W1 hl D1.out.cur (D1.out.code HC.out) hB (by omega)).mono ?_
        rintro e W2 ⟨x, rfl, hx0, hx1, hc2, ho2⟩
        have D2 := Lib.hid (D1.out.only hc2 ho2 hB hbw)
        have hs2 := D2.out.size
        clear hc2 ho2
        have hn1 := new1 W2 (.cells #[.int .i64 (k : Int), .int .i64 (1 + x)] 99)
        have hO3 := own_keep D2.out.own hn1
        have hone := one_vs (boxed W2 ⟨(k : Int), 1 + x⟩ 99)
        obtain ⟨A4, c4, W4, hr, ho4, hg4, hb4⟩ := app_kz (c := 1) (W2.alloc (.cells #[.int .i64 (k : Int), .int .i64 (1 + x)] 99)) hO3 hone (by omega) (by simp; omega)
        have D4 : Hid (DLk w B b a len cap A4 (n + 1) c4 (l ++ [⟨(k : Int), 1 + x⟩]) W4) := Lib.hid ⟨(D2.out.cur.alloc _).grown hg4 (fun e => by have := (hO3.lt b e.symm).1; omega), ho4, (D2.out.kp.alloc (by omega) _).grown hg4 (by omega) (fun j hj => (hO3.lt j hj).1)⟩
        clear hn1 hO3 hone ho4 hg4 hb4
        go_wp2_with (at_builtin; refine Lib.wpList_append_run _ rfl _ _ 39 39 rfl _ _ rfl rfl _ _ hr ?_)
        go_roundw
        case rel => exact ⟨k + 1, n + 1, c4, A4, l ++ [⟨(k : Int), 1 + x⟩], by omega, by omega, by rw [List.length_append, HLN.out]; rfl, by go_num, rfl, D4.out⟩
        case measure => simp [intOf]; omega
    · obtain rfl : k = 6 := by omega
      go_wp2_with fail
      refine (once_calls b B a len cap 14 wr hl HD.out.cur (HD.out.code HC.out) hB (by omega)).mono ?_
      rintro e W1 ⟨q, rfl, hc1, ho1⟩
      have D1 := Lib.hid (HD.out.only hc1 ho1 hB hbw)
      clear hc1 ho1
      cases q with
      | false =>
        go_wp2_with fail
        go_ret
        exact ⟨A, n, c, l, rfl, by omega, HLN.out, D1.out⟩
      | true =>
        go_wp2_with fail
        refine (below_calls b B a len cap 7 W1 hl D1.out.cur (D1.out.code HC.out) hB (by omega)).mono ?_
        rintro e W2 ⟨x, rfl, hx0, hx1, hc2, ho2⟩
        have D2 := Lib.hid (D1.out.only hc2 ho2 hB hbw)
        have hs2 := D2.out.size
        clear hc2 ho2
        go_wp2_with fail
        have hl0 := list_0 W2
        have hn0 := new1 W2 (.cells #[.int .i64 0, .int .i64 9, .int .i64 10] 3)
        have D3 : DLk w B b a len cap A n c l (W2.alloc (.cells #[.int .i64 0, .int .i64 9, .int .i64 10] 3)) := ⟨D2.out.cur.alloc _, own_keep D2.out.own hn0, D2.out.kp.alloc (by omega) _⟩
        generalize hg : W2.heap.size = g0 at hl0 ⊢
        have hne : g0 ≠ b := by omega
        generalize W2.alloc _ = V at hl0 D3 ⊢
        have HD3 := Lib.hid D3
        refine (pick_calls b B g0 a len cap 3 (-1) 1000 V hl D3.cur (D3.code HC.out) hB (by omega) (by omega) hne hl0).mono ?_
        rintro e W3 ⟨y, rfl, hy0, hy1, hc3, ho3⟩
        have D4 := Lib.hid (HD3.out.only hc3 ho3 hB hbw)
        have hs4 := D4.out.size
        clear hc3 ho3 D3 hl0 hn0 hg hne
        have hn1 := new1 W3 (.cells #[.int .i64 x, .int .i64 y] 99)
        have hO3 := own_keep D4.out.own hn1
        have hone := one_vs (boxed W3 ⟨x, y⟩ 99)
        obtain ⟨A4, c4, W4, hr, ho4, hg4, hb4⟩ := app_kz (c := 1) (W3.alloc (.cells #[.int .i64 x, .int .i64 y] 99)) hO3 hone (by omega) (by simp; omega)
        have D5 : Hid (DLk w B b a len cap A4 (n + 1) c4 (l ++ [⟨x, y⟩]) W4) := Lib.hid ⟨(D4.out.cur.alloc _).grown hg4 (fun e => by have := (hO3.lt b e.symm).1; omega), ho4, (D4.out.kp.alloc (by omega) _).grown hg4 (by omega) (fun j hj => (hO3.lt j hj).1)⟩
        clear hn1 hO3 hone ho4 hg4 hb4
        go_wp2_with (at_builtin; refine Lib.wpList_append_run _ rfl _ _ 39 39 rfl _ _ rfl rfl _ _ hr ?_)
        go_ret
        exact ⟨A4, n + 1, c4, _, rfl, by omega, by rw [List.length_append, HLN.out]; rfl, D5.out⟩
/-- a list of locks, a key, an owner -/
def DAC (w : World) (e : Ending) (w' : World) : Prop := ∃ (A : Option Addr) (n c : Nat) (l : List E2) (k o : Int), e = .returned (.tuple #[.slice A n c, .int .i64 k, .int .i64 o]) ∧ n ≤ 7 ∧ l.length = n ∧ -1 ≤ k ∧ k ≤ 6 ∧ 0 ≤ o ∧ o ≤ 5 ∧ w'.ownsRow w.heap.size 99 2 (.slice A n c) n (flat l) ∧ Below w.heap.size w w'
end Go.Proofs.Ytdfhnngcddaccaa.dlz
