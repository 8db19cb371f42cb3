/- What the model draws from a code of at most 1048576 bytes: an int, a text, an int and a width; nothing that was there turns. -/
import Derived.Test.YtfjjpmpkjcopiaaDoorCur
import Derived.WalkKit
import Derived.ProofKit
import Derived.OpenShut
import Derived.ShutString
import Derived.ChangeOld
import Derived.Below
import Derived.Lib.Hide
namespace Go.Proofs.YtfjjpmpkjcopiaaDoor.draw
open Go.ChangeShapes Go.WideShapes Go.ChangeAt Go.RowKit
open Go.Proofs.YtfjjpmpkjcopiaaDoor.bytes Go.Proofs.YtfjjpmpkjcopiaaDoor.cur
set_option linter.unusedVariables false
/-- What a drawn text is: a string of at most 'most' bytes; nothing below block B has turned. -/
def TextEnd (B b : Nat) (a : Option Addr) (len cap : Nat) (most : Nat) (w : World) (e : Ending) (w' : World) : Prop :=
  ∃ s : ByteArray, e = .returned (.string s) ∧ s.size ≤ most ∧ CurAt w' b a len cap ∧ Below B w w'
theorem own_len {w : World} {base : Nat} {e : TypeId} {v : Value} {n : Nat} {l : List UInt8} (h : w.ownsRow base e 1 v n (l.map byteV)) : l.length = n := by
  have := h.1
  simpa using this
set_option maxHeartbeats 800000 in
set_option maxRecDepth 100000 in
theorem text_calls (b B : Nat) (a : Option Addr) (len cap most : Nat) (w : World) (hl : len ≤ 1048576) (hm : most ≤ 1048576) (hc : CurAt w b a len cap) (hcode : CodeAt w B a len) (hB : B ≤ b) :
    Calls Tryd.prog 23 #[.pointer (some ⟨b, 0, none⟩), .int .i64 (most : Int)] w (TextEnd B b a len cap most w) := by
  obtain ⟨i0, hi, hz0, hz1, hz2⟩ := info_parts info5
  have hbw := hc.lt
  have HK := Lib.hid (fun (n : Int) (hn : 0 < n) W (hW : CurAt W b a len cap) (hO : Below B w W) => below_calls b B a len cap n W hl hW (hcode.below (Nat.le_refl _) hO) hB hn)
  have HY := Lib.hid (fun W (hW : CurAt W b a len cap) (hO : Below B w W) => byte_calls b B a len cap W hl hW (hcode.below (Nat.le_refl _) hO) hB)
  have HC := Lib.hid (hc.alloc (.cells #[] 5))
  have HO := Lib.hid ((Below.refl B w).alloc (by omega) (.cells #[] 5))
  clear hc hcode
  go_enter Tryd.func23, Tryd.ntmps23
  go_wp2_with fail
  refine (HK.out 4 (by decide) _ HC.out HO.out).mono ?_
  rintro e W1 ⟨st, rfl, hs0, hs1, hc1, ho1⟩
  have C1 := Lib.hid hc1
  have O1 := Lib.hid (HO.out.trans (ho1.below hB))
  have R1 := Lib.hid ((World.ownsRow_made (base := w.heap.size) (e := 5) (size := 1) w #[] 0 (Nat.le_refl _) (by decide) rfl).kept ho1.grownBy (.inr (by simp [Value.ownBlock]; omega)))
  clear hc1 ho1
  go_wp2_with fail
  refine (HK.out _ (by omega) _ C1.out O1.out).mono ?_
  rintro e W2 ⟨n, rfl, hn0, hn1, hc2, ho2⟩
  have C2 := Lib.hid hc2
  have O2 := Lib.hid (O1.out.trans (ho2.below hB))
  have R2 := Lib.hid (R1.out.kept ho2.grownBy (.inr (by simp [Value.ownBlock]; omega)))
  clear hc2 ho2
  go_wp2_with fail
  obtain ⟨k0, rfl⟩ := Int.eq_ofNat_of_zero_le hn0
  have hk0 : k0 ≤ most := by omega
  have hw2 : w.heap.size ≤ W2.heap.size := O2.out.size
  clear HK HC HO C1 O1 R1
  go_loopw [5, 7, 8] (fun v i _ wr => ∃ (k : Nat) (l : List UInt8), i = .int .i64 k ∧ l.length + k ≤ most ∧ wr.ownsRow w.heap.size 5 1 v l.length (l.map byteV) ∧ w.heap.size ≤ wr.heap.size ∧ CurAt wr b a len cap ∧ Below B w wr) (fun _ i _ _ => (intOf i).toNat)
  case atStart => exact ⟨k0, [], rfl, by simpa using hk0, R2.out, hw2, C2.out, O2.out⟩
  case round =>
    obtain ⟨k, l, rfl, hlk, hown, hsz, hcr, hor⟩ := hrel
    have HR := Lib.hid hown
    have HCr := Lib.hid hcr
    have HOr := Lib.hid hor
    by_cases hk : k = 0
    · subst hk
      have hcv := owned_string Tryd.underlying22 Tryd.underlying5 Tryd.underlying9 rfl hown
      clear hown hcr hor
      go_wp2
      go_ret
      exact ⟨_, rfl, by show l.toArray.size ≤ most; simp; omega, HCr.out, HOr.out⟩
    · obtain ⟨k, rfl⟩ : ∃ j, k = j + 1 := ⟨k - 1, by omega⟩
      clear hown hcr hor hk
      have hpos : (0 : Int) < ((k + 1 : Nat) : Int) := by omega
      have hmax : l.length + 1 ≤ maxLen := by unfold maxLen; omega
      have hbyt : (l.length + 1) * 1 ≤ 140737488355328 := by omega
      by_cases h1 : st = 1
      · have e1 : (st == 1) = true := by simpa using h1
        have e2 : (st == 2) = false := by subst h1; decide
        clear h1
        go_wp2_with fail
        refine (HY.out _ HCr.out HOr.out).mono ?_
        rintro e W3 ⟨x, rfl, hx0, hx1, hc3, ho3⟩
        have C3 := Lib.hid hc3
        have O3 := Lib.hid (HOr.out.trans (ho3.below hB))
        have hown3 := HR.out.kept ho3.grownBy (.inr (fun e => by have := (HR.out.lt b e).1; omega))
        have hsz3 : wr.heap.size ≤ W3.heap.size := by rw [ho3.size]; exact Nat.le_refl _
        clear hc3 ho3
        have hb0 : 0 ≤ x % 2 := by omega
        have hb1 : x % 2 ≤ 255 := by omega
        have hbase : ∀ o, w.heap.size ≤ (W3.alloc o).heap.size := fun o => by simp; omega
        go_wp2_with (at_builtin; refine wpList_append_own _ rfl _ _ 22 rfl w.heap.size 5 i0 (.int .u8 0) 1 1 Tryd.underlying22 hi hz0 hz1 hz2 rfl (by decide) _ _ _ rfl (hown3.alloc _) ⟨_, 0, none⟩ 1 1 [.int .u8 (x % 2)] rfl rfl (cell_one_new _ _ _) (one_oneCell _ _) hmax hbyt (hbase _) ?_)
        intro v' w1 hown' hgrow _
        rw [snoc_row _ _ hb0 hb1] at hown'
        have hrow := fun k hk => (hown3.lt k hk).1
        have hO4 : Below B w w1 := (O3.out.alloc (by omega) _).grown hgrow (by simp; omega) (fun k hk => by have := hrow k hk; omega)
        have hC4 : CurAt w1 b a len cap := (C3.out.alloc _).grown hgrow (fun e => by have := hrow b e.symm; omega)
        have hS4 : w.heap.size ≤ w1.heap.size := Nat.le_trans (hbase _) hgrow.size
        have HX := Lib.hid hown'
        have HO4 := Lib.hid hO4
        have HC4 := Lib.hid hC4
        clear hown' hgrow hown3 hrow hO4 hC4
        go_wp2
        go_roundw
        case rel => exact ⟨k, l ++ [UInt8.ofNat (x % 2).toNat], by go_num, by simp; omega, by simpa using HX.out, hS4, HC4.out, HO4.out⟩
        case measure => simp [intOf]
      · have e1 : (st == 1) = false := by simpa using h1
        by_cases h2 : st = 2
        · have e2 : (st == 2) = true := by simpa using h2
          clear h1 h2
          go_wp2_with fail
          refine (HY.out _ HCr.out HOr.out).mono ?_
          rintro e W3 ⟨x, rfl, hx0, hx1, hc3, ho3⟩
          have C3 := Lib.hid hc3
          have O3 := Lib.hid (HOr.out.trans (ho3.below hB))
          have hown3 := HR.out.kept ho3.grownBy (.inr (fun e => by have := (HR.out.lt b e).1; omega))
          have hsz3 : wr.heap.size ≤ W3.heap.size := by rw [ho3.size]; exact Nat.le_refl _
          clear hc3 ho3
          have hb0 : 0 ≤ 97 + x % 4 := by omega
          have hb1 : 97 + x % 4 ≤ 255 := by omega
          have hbase : ∀ o, w.heap.size ≤ (W3.alloc o).heap.size := fun o => by simp; omega
          go_wp2_with (at_builtin; refine wpList_append_own _ rfl _ _ 22 rfl w.heap.size 5 i0 (.int .u8 0) 1 1 Tryd.underlying22 hi hz0 hz1 hz2 rfl (by decide) _ _ _ rfl (hown3.alloc _) ⟨_, 0, none⟩ 1 1 [.int .u8 (97 + x % 4)] rfl rfl (cell_one_new _ _ _) (one_oneCell _ _) hmax hbyt (hbase _) ?_)
          intro v' w1 hown' hgrow _
          rw [snoc_row _ _ hb0 hb1] at hown'
          have hrow := fun k hk => (hown3.lt k hk).1
          have hO4 : Below B w w1 := (O3.out.alloc (by omega) _).grown hgrow (by simp; omega) (fun k hk => by have := hrow k hk; omega)
          have hC4 : CurAt w1 b a len cap := (C3.out.alloc _).grown hgrow (fun e => by have := hrow b e.symm; omega)
          have hS4 : w.heap.size ≤ w1.heap.size := Nat.le_trans (hbase _) hgrow.size
          have HX := Lib.hid hown'
          have HO4 := Lib.hid hO4
          have HC4 := Lib.hid hC4
          clear hown' hgrow hown3 hrow hO4 hC4
          go_wp2
          go_roundw
          case rel => exact ⟨k, l ++ [UInt8.ofNat (97 + x % 4).toNat], by go_num, by simp; omega, by simpa using HX.out, hS4, HC4.out, HO4.out⟩
          case measure => simp [intOf]
        · have e2 : (st == 2) = false := by simpa using h2
          clear h1 h2
          go_wp2_with fail
          refine (HY.out _ HCr.out HOr.out).mono ?_
          rintro e W3 ⟨x, rfl, hx0, hx1, hc3, ho3⟩
          have C3 := Lib.hid hc3
          have O3 := Lib.hid (HOr.out.trans (ho3.below hB))
          have hown3 := HR.out.kept ho3.grownBy (.inr (fun e => by have := (HR.out.lt b e).1; omega))
          have hsz3 : wr.heap.size ≤ W3.heap.size := by rw [ho3.size]; exact Nat.le_refl _
          clear hc3 ho3
          have hb0 : 0 ≤ x := by omega
          have hb1 : x ≤ 255 := by omega
          have hbase : ∀ o, w.heap.size ≤ (W3.alloc o).heap.size := fun o => by simp; omega
          go_wp2_with (at_builtin; refine wpList_append_own _ rfl _ _ 22 rfl w.heap.size 5 i0 (.int .u8 0) 1 1 Tryd.underlying22 hi hz0 hz1 hz2 rfl (by decide) _ _ _ rfl (hown3.alloc _) ⟨_, 0, none⟩ 1 1 [.int .u8 (x)] rfl rfl (cell_one_new _ _ _) (one_oneCell _ _) hmax hbyt (hbase _) ?_)
          intro v' w1 hown' hgrow _
          rw [snoc_row _ _ hb0 hb1] at hown'
          have hrow := fun k hk => (hown3.lt k hk).1
          have hO4 : Below B w w1 := (O3.out.alloc (by omega) _).grown hgrow (by simp; omega) (fun k hk => by have := hrow k hk; omega)
          have hC4 : CurAt w1 b a len cap := (C3.out.alloc _).grown hgrow (fun e => by have := hrow b e.symm; omega)
          have hS4 : w.heap.size ≤ w1.heap.size := Nat.le_trans (hbase _) hgrow.size
          have HX := Lib.hid hown'
          have HO4 := Lib.hid hO4
          have HC4 := Lib.hid hC4
          clear hown' hgrow hown3 hrow hO4 hC4
          go_wp2
          go_roundw
          case rel => exact ⟨k, l ++ [UInt8.ofNat (x).toNat], by go_num, by simp; omega, by simpa using HX.out, hS4, HC4.out, HO4.out⟩
          case measure => simp [intOf]
/-- An int is drawn from a code. -/
def DNum (w : World) (e : Ending) (w' : World) : Prop := ∃ x : Int, e = .returned (.int .i64 x) ∧ -9223372036854775808 ≤ x ∧ x ≤ 9223372036854775807 ∧ Below w.heap.size w w'
/-- A text of at most 40 bytes is drawn from a code. -/
def DText (w : World) (e : Ending) (w' : World) : Prop := ∃ s : ByteArray, e = .returned (.string s) ∧ s.size ≤ 40 ∧ Below w.heap.size w w'
/-- An int and a width are drawn from a code. -/
def DPair (w : World) (e : Ending) (w' : World) : Prop := ∃ x d : Int, e = .returned (.tuple #[.int .i64 x, .int .i64 d]) ∧ -9223372036854775808 ≤ x ∧ x ≤ 9223372036854775807 ∧ -1 ≤ d ∧ d ≤ 8 ∧ Below w.heap.size w w'
theorem cur_new (w : World) (a : Option Addr) (len cap : Nat) (h : Int) : CurAt (w.alloc (.cells #[.slice a len cap, .int .i64 0, .int .i64 h] 53)) w.heap.size a len cap :=
  ⟨0, h, Int.le_refl _, by omega, heap_alloc_new w _⟩
theorem code_new {w : World} {a : Option Addr} {len : Nat} (hc : CodeAt w w.heap.size a len) (o : Obj) : CodeAt (w.alloc o) w.heap.size a len :=
  hc.below (Nat.le_refl _) ((Below.refl _ _).alloc (Nat.le_refl _) o)
theorem drawNum (a : Option Addr) (len cap : Nat) (w : World) (hl : len ≤ 1048576) (hcode : CodeAt w w.heap.size a len) :
    Calls Tryd.prog 7 #[.slice a len cap] w (DNum w) := by
  have HN := Lib.hid (new_calls w.heap.size a len cap w hl hcode (Nat.le_refl _))
  have HC := Lib.hid hcode
  clear hcode
  go_enter Tryd.func7, Tryd.ntmps7
  go_wp2_with fail
  refine HN.out.mono ?_
  rintro e W1 ⟨h, rfl, rfl⟩
  have HX := Lib.hid (num_calls w.heap.size w.heap.size a len cap _ hl (cur_new w a len cap h) (code_new HC.out _) (Nat.le_refl _))
  go_wp2_with fail
  refine HX.out.mono ?_
  rintro e W2 ⟨x, rfl, h0, h1, hc2, hb2⟩
  have HB := Lib.hid (((Below.refl w.heap.size w).alloc (Nat.le_refl _) _).trans hb2)
  clear hc2 hb2
  go_wp2_with fail
  go_ret
  exact ⟨x, rfl, h0, h1, HB.out⟩
theorem drawText (a : Option Addr) (len cap : Nat) (w : World) (hl : len ≤ 1048576) (hcode : CodeAt w w.heap.size a len) :
    Calls Tryd.prog 8 #[.slice a len cap] w (DText w) := by
  have HN := Lib.hid (new_calls w.heap.size a len cap w hl hcode (Nat.le_refl _))
  have HC := Lib.hid hcode
  clear hcode
  go_enter Tryd.func8, Tryd.ntmps8
  go_wp2_with fail
  refine HN.out.mono ?_
  rintro e W1 ⟨h, rfl, rfl⟩
  have HX := Lib.hid (text_calls w.heap.size w.heap.size a len cap 40 _ hl (by decide) (cur_new w a len cap h) (code_new HC.out _) (Nat.le_refl _))
  go_wp2_with fail
  refine HX.out.mono ?_
  rintro e W2 ⟨s, rfl, h0, hc2, hb2⟩
  have HB := Lib.hid (((Below.refl w.heap.size w).alloc (Nat.le_refl _) _).trans hb2)
  clear hc2 hb2
  go_wp2_with fail
  go_ret
  exact ⟨s, rfl, h0, HB.out⟩
theorem drawPair (a : Option Addr) (len cap : Nat) (w : World) (hl : len ≤ 1048576) (hcode : CodeAt w w.heap.size a len) :
    Calls Tryd.prog 11 #[.slice a len cap] w (DPair w) := by
  have HN := Lib.hid (new_calls w.heap.size a len cap w hl hcode (Nat.le_refl _))
  have HC := Lib.hid hcode
  clear hcode
  go_enter Tryd.func11, Tryd.ntmps11
  go_wp2_with fail
  refine HN.out.mono ?_
  rintro e W1 ⟨h, rfl, rfl⟩
  have HX := Lib.hid (num_calls w.heap.size w.heap.size a len cap _ hl (cur_new w a len cap h) (code_new HC.out _) (Nat.le_refl _))
  go_wp2_with fail
  refine HX.out.mono ?_
  rintro e W2 ⟨x, rfl, h0, h1, hc2, hb2⟩
  have HB := Lib.hid (((Below.refl w.heap.size w).alloc (Nat.le_refl _) _).trans hb2)
  have HY := Lib.hid (below_calls w.heap.size w.heap.size a len cap 10 W2 hl hc2 (HC.out.below (Nat.le_refl _) HB.out) (Nat.le_refl _) (by decide))
  clear hc2 hb2
  go_wp2_with fail
  refine HY.out.mono ?_
  rintro e W3 ⟨d, rfl, d0, d1, hc3, ho3⟩
  have HB3 := Lib.hid (HB.out.trans (ho3.below (Nat.le_refl _)))
  clear hc3 ho3
  go_wp2_with fail
  go_ret2
  exact ⟨x, d - 1, rfl, h0, h1, by omega, by omega, HB3.out⟩
end Go.Proofs.YtfjjpmpkjcopiaaDoor.draw
