/- The arguments that the model draws for the laws of chapter 3: a list of versions and a stamp, a mark; each drawing ends, and nothing that was there is written. -/
import Derived.Test.YtdfhnngcddaccaaDraw
import Derived.WalkKit
import Derived.ProofKit
import Derived.Below
import Derived.Lib.Hide
import Derived.Outline
import Derived.IntWalk
import Derived.WalkLawsBesides
import Derived.WalkSpells
namespace Go.Proofs.Ytdfhnngcddaccaa.drawn
open Go.ChangeShapes Go.WideShapes Go.ChangeAt Go.RowKit
open Go.Proofs.Ytdfhnngcddaccaa.vers Go.Proofs.Ytdfhnngcddaccaa.sl Go.Proofs.Ytdfhnngcddaccaa.ch Go.Proofs.Ytdfhnngcddaccaa.flat Go.Proofs.Ytdfhnngcddaccaa.cur Go.Proofs.Ytdfhnngcddaccaa.draw
set_option linter.unusedVariables false
set_option linter.unusedSimpArgs false
/-- some list of at most five versions has been drawn -/
def DA (B b : Nat) (a : Option Addr) (len cap : Nat) (w : World) (e : Ending) (w' : World) : Prop :=
  ∃ A n c l, e = .returned (.slice A n c) ∧ n ≤ 5 ∧ Vs w' w'.heap.size A n l ∧ (∀ g o, A = some ⟨g, o, none⟩ → 0 < n → g ≠ b ∧ w.heap.size ≤ g) ∧ CurAt w' b a len cap ∧ Kp B b w w'
theorem da_of {B b g : Nat} {a : Option Addr} {len cap m c : Nat} {w w' : World} {B' : Nat} (h : R5 w' B' (.slice (some ⟨g, 0, none⟩) m c) m) (hgb : g ≠ b) (hgw : w.heap.size ≤ g) (hm : m ≤ 5) (hc : CurAt w' b a len cap) (hb : Kp B b w w') :
    DA B b a len cap w (.returned (.slice (some ⟨g, 0, none⟩) m c)) w' := by
  obtain ⟨A', c', l, hv, hs⟩ := h.vs
  injection hv with e1 e2 e3
  subst e1
  subst e3
  exact ⟨_, m, c, l, rfl, hm, hs, fun g' o e _ => by injection e with e; injection e with e1 _ _; exact ⟨by omega, by omega⟩, hc, hb⟩
theorem vs_tail {w : World} {B m : Nat} {b o : Nat} {l : List Ver} (h : Vs w B (some ⟨b, o, none⟩) m l) (hm : 0 < m) : Vs w B (some ⟨b, o + 5, none⟩) (m - 1) (l.drop 1) := by
  refine ⟨by rw [List.length_drop, h.1], fun hn => ?_⟩
  obtain ⟨b', o', e, hb, hc⟩ := h.2 hm
  injection e with e
  injection e with e1 e2 _
  subst e1
  subst e2
  refine ⟨b, o + 5, rfl, hb, fun k x hx => ?_⟩
  rw [List.getElem?_drop] at hx
  have := hc (1 + k) x hx
  rw [show o + (1 + k) * 5 = o + 5 + k * 5 by omega] at this
  exact this
set_option maxRecDepth 100000 in
set_option maxHeartbeats 3200000 in
theorem draw_any (b B : Nat) (a : Option Addr) (len cap : Nat) (w : World) (hl : len ≤ 1048576) (hc : CurAt w b a len cap) (hcode : CodeAt w B a len) (hB : B ≤ b) :
    Calls Try.prog 83 #[.pointer (some ⟨b, 0, none⟩)] w (DA B b a len cap w) := by
  have hbw := hc.lt
  have HK := Lib.hid (fun (n : Int) (hn : 0 < n) W (hW : CurAt W b a len cap) (hO : Kp B b w W) => below_calls b B a len cap n W hl hW (hcode.below (Nat.le_refl _) hO.bel) hB hn)
  have HP := Lib.hid (fun W (hW : CurAt W b a len cap) (hO : Kp B b w W) (l : List Int) (n : Nat) (h0 : 0 < n) (hn : n ≤ 100) (hln : l.length = n) (hbd : ∀ v ∈ l, -9223372036854775808 ≤ v ∧ v ≤ 9223372036854775807) =>
    pick_calls b B W.heap.size a len cap n (-9223372036854775808) 9223372036854775807 (W.alloc (.cells (l.map (Value.int .i64)).toArray 3)) hl (hW.alloc _) ((hcode.below (Nat.le_refl _) hO.bel).below (Nat.le_refl _) ((Below.refl _ _).alloc (by have := hO.size; omega) _)) hB h0 (by omega) (by have := hW.lt; omega) (fun j hj => ⟨l[j]'(by omega), by rw [World.cell?_alloc_at _ _ _ _ rfl]; simp [List.getElem?_eq_getElem (show j < l.length by omega)], (hbd _ (List.getElem_mem _)).1, (hbd _ (List.getElem_mem _)).2⟩))
  have HD := Lib.hid (draw_chain b B a len cap w hl hc hcode hB)
  clear hc hcode
  go_enter Try.func83, Try.ntmps83
  go_wp2_with fail
  refine HD.out.mono ?_
  rintro e W1 ⟨v, m, rfl, hm, hm5, hr1, hc1, hb1⟩
  obtain ⟨g, cp, rfl, hg0, hgw, hmc, _⟩ := hr1.form hm
  have hgb : g ≠ b := by omega
  have HR1 := Lib.hid hr1
  have HC1 := Lib.hid hc1
  have HB1 := Lib.hid hb1
  clear hr1 hc1 hb1 HD
  go_wp2_with fail
  refine (HK.out (m : Int) (by omega) W1 HC1.out HB1.out).mono ?_
  rintro e W2 ⟨k, rfl, hk0, hk1, hc2, ho2⟩
  obtain ⟨k, rfl⟩ := Int.eq_ofNat_of_zero_le hk0
  have HR2 := Lib.hid (HR1.out.only ho2 hgb)
  have HC2 := Lib.hid hc2
  have HB2 := Lib.hid (HB1.out.only ho2 hB)
  clear hc2 ho2
  go_wp2_with fail
  refine (HK.out 16 (by decide) W2 HC2.out HB2.out).mono ?_
  rintro e W3 ⟨x, rfl, hx0, hx1, hc3, ho3⟩
  have HR3 := Lib.hid (HR2.out.only ho3 hgb)
  have HC3 := Lib.hid hc3
  have HB3 := Lib.hid (HB2.out.only ho3 hB)
  have i1 : (0 : Int) ≤ (k : Int) := by omega
  have i2 : (k : Int) < (m : Int) := hk1
  have hkm : k < m := by omega
  clear hc3 ho3 hk0
  by_cases x0 : x = 0
  case pos =>
    subst x0
    clear hx0 hx1
    have HQ := Lib.hid (HP.out W3 HC3.out HB3.out [0, 1, 3, 1000, 1001] 5 (by decide) (by decide) rfl (by decide))
    have R7 := Lib.hid (HR3.out.alloc (.cells #[.int .i64 0, .int .i64 1, .int .i64 3, .int .i64 1000, .int .i64 1001] 3))
    have B7 := Lib.hid (HB3.out.alloc (by omega) (.cells #[.int .i64 0, .int .i64 1, .int .i64 3, .int .i64 1000, .int .i64 1001] 3))
    go_wp2_with fail
    refine HQ.out.mono ?_
    rintro e W4 ⟨y, rfl, hy0, hy1, hc4, ho4⟩
    have r4 := R7.out.only ho4 hgb
    obtain ⟨u, cu, fu⟩ := (r4.cells hm).2.2.2 (k * 5 + 4) (by omega)
    have R8 := Lib.hid (r4.set (i := k * 5 + 4) (by omega) y)
    have C8 := Lib.hid (cur_set (i := k * 5 + 4) hc4 hgb (.int .i64 y))
    have B8 := Lib.hid ((B7.out.only ho4 hB).setCell (p := ⟨g, k * 5 + 4, none⟩) (by omega) (by show w.heap.size ≤ g; omega) (.int .i64 y))
    clear r4 hc4 ho4 hy0 hy1
    go_wp2_with fail
    go_ret
    exact da_of R8.out hgb hg0 hm5 C8.out B8.out
  have y0 : (x == 0) = false := by simpa using x0
  clear x0
  by_cases x1 : x = 1
  case pos =>
    subst x1
    clear hx0 hx1
    have HQ := Lib.hid (HP.out W3 HC3.out HB3.out [-1, 0, 999, 1000] 4 (by decide) (by decide) rfl (by decide))
    have R7 := Lib.hid (HR3.out.alloc (.cells #[.int .i64 (-1), .int .i64 0, .int .i64 999, .int .i64 1000] 3))
    have B7 := Lib.hid (HB3.out.alloc (by omega) (.cells #[.int .i64 (-1), .int .i64 0, .int .i64 999, .int .i64 1000] 3))
    go_wp2_with fail
    refine HQ.out.mono ?_
    rintro e W4 ⟨y, rfl, hy0, hy1, hc4, ho4⟩
    have r4 := R7.out.only ho4 hgb
    obtain ⟨u, cu, fu⟩ := (r4.cells hm).2.2.2 (k * 5 + 3) (by omega)
    have R8 := Lib.hid (r4.set (i := k * 5 + 3) (by omega) y)
    have C8 := Lib.hid (cur_set (i := k * 5 + 3) hc4 hgb (.int .i64 y))
    have B8 := Lib.hid ((B7.out.only ho4 hB).setCell (p := ⟨g, k * 5 + 3, none⟩) (by omega) (by show w.heap.size ≤ g; omega) (.int .i64 y))
    clear r4 hc4 ho4 hy0 hy1
    go_wp2_with fail
    go_ret
    exact da_of R8.out hgb hg0 hm5 C8.out B8.out
  have y1 : (x == 1) = false := by simpa using x1
  clear x1
  by_cases x2 : x = 2
  case pos =>
    subst x2
    clear hx0 hx1
    have HQ := Lib.hid (HP.out W3 HC3.out HB3.out [-2, 100, 99] 3 (by decide) (by decide) rfl (by decide))
    have R7 := Lib.hid (HR3.out.alloc (.cells #[.int .i64 (-2), .int .i64 100, .int .i64 99] 3))
    have B7 := Lib.hid (HB3.out.alloc (by omega) (.cells #[.int .i64 (-2), .int .i64 100, .int .i64 99] 3))
    go_wp2_with fail
    refine HQ.out.mono ?_
    rintro e W4 ⟨y, rfl, hy0, hy1, hc4, ho4⟩
    have r4 := R7.out.only ho4 hgb
    obtain ⟨u, cu, fu⟩ := (r4.cells hm).2.2.2 (k * 5 + 1) (by omega)
    have R8 := Lib.hid (r4.set (i := k * 5 + 1) (by omega) y)
    have C8 := Lib.hid (cur_set (i := k * 5 + 1) hc4 hgb (.int .i64 y))
    have B8 := Lib.hid ((B7.out.only ho4 hB).setCell (p := ⟨g, k * 5 + 1, none⟩) (by omega) (by show w.heap.size ≤ g; omega) (.int .i64 y))
    clear r4 hc4 ho4 hy0 hy1
    go_wp2_with fail
    go_ret
    exact da_of R8.out hgb hg0 hm5 C8.out B8.out
  have y2 : (x == 2) = false := by simpa using x2
  clear x2
  by_cases x3 : x = 3
  case pos =>
    subst x3
    clear hx0 hx1
    have j1 : (1 : Int) ≤ (m : Int) := by omega
    have j2 : (m : Int) ≤ (cp : Int) := by omega
    obtain ⟨A', c', l, hv, hs⟩ := HR3.out.vs
    injection hv with e1 e2 e3
    subst e1
    subst e3
    have HS := Lib.hid hs
    clear hs
    by_cases hcp : cp = 1
    · subst hcp
      have hm1 : m = 1 := by omega
      subst hm1
      go_wp2_with fail
      go_ret
      exact ⟨_, _, _, [], rfl, by omega, Vs.nil_ _ _ _, (fun g' o e h0 => absurd h0 (by omega)), HC3.out, HB3.out⟩
    · have hcp2 : (cp == 1) = false := by simpa using hcp
      go_wp2_with fail
      go_ret
      refine ⟨_, _, _, _, rfl, by omega, vs_tail HS.out hm, (fun g' o e _ => by injection e with e; injection e with e1 _ _; exact ⟨by omega, by omega⟩), HC3.out, HB3.out⟩
  have y3 : (x == 3) = false := by simpa using x3
  clear x3
  by_cases x4 : x = 4
  case pos =>
    subst x4
    clear hx0 hx1
    have HQ := Lib.hid (HP.out W3 HC3.out HB3.out [0, 9, 10] 3 (by decide) (by decide) rfl (by decide))
    have R7 := Lib.hid (HR3.out.alloc (.cells #[.int .i64 0, .int .i64 9, .int .i64 10] 3))
    have B7 := Lib.hid (HB3.out.alloc (by omega) (.cells #[.int .i64 0, .int .i64 9, .int .i64 10] 3))
    go_wp2_with fail
    refine HQ.out.mono ?_
    rintro e W4 ⟨y, rfl, hy0, hy1, hc4, ho4⟩
    have r4 := R7.out.only ho4 hgb
    obtain ⟨u, cu, fu⟩ := (r4.cells hm).2.2.2 (k * 5) (by omega)
    have R8 := Lib.hid (r4.set (i := k * 5) (by omega) y)
    have C8 := Lib.hid (cur_set (i := k * 5) hc4 hgb (.int .i64 y))
    have B8 := Lib.hid ((B7.out.only ho4 hB).setCell (p := ⟨g, k * 5, none⟩) (by omega) (by show w.heap.size ≤ g; omega) (.int .i64 y))
    clear r4 hc4 ho4 hy0 hy1
    go_wp2_with fail
    go_ret
    exact da_of R8.out hgb hg0 hm5 C8.out B8.out
  have y4 : (x == 4) = false := by simpa using x4
  clear x4
  go_wp2_with fail
  go_ret
  exact da_of HR3.out hgb hg0 hm5 HC3.out HB3.out
/-- a list of at most five versions and some number -/
def DV (w : World) (e : Ending) (w' : World) : Prop := ∃ A n c l st, e = .returned (.tuple #[.slice A n c, .int .i64 st]) ∧ n ≤ 5 ∧ Vs w' w'.heap.size A n l ∧ Below w.heap.size w w'
end Go.Proofs.Ytdfhnngcddaccaa.drawn
