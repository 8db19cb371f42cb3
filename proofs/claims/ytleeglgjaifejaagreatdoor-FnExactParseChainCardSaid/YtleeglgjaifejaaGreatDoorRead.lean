/- How the program reads a version out of a text: its text reader, and what readVersion answers; nothing that was there is written. -/
import Derived.Test.YtleeglgjaifejaaGreatDoorPieces
import Derived.Test.YtleeglgjaifejaaGreatDoorFind
import Derived.Test.YtleeglgjaifejaaGreatDoorMarks
import Derived.Test.YtleeglgjaifejaaGreatDoorParInt
import Derived.Test.YtleeglgjaifejaaGreatDoorVars
import Derived.Test.YtleeglgjaifejaaGreatDoorCut
import Derived.WalkKit
import Derived.ProofKit
import Derived.Below
import Derived.Lib.Hide
import Derived.LoopTactic
import Derived.Outline
import Derived.IntWalk
namespace Go.Proofs.YtleeglgjaifejaaGreatDoor.read
open Go.ChangeShapes Go.WideShapes Go.ChangeAt Go.RowKit
open Go.Lib (itoa cut)
open Go.Proofs.YtleeglgjaifejaaGreatDoor.vers Go.Proofs.YtleeglgjaifejaaGreatDoor.sl Go.Proofs.YtleeglgjaifejaaGreatDoor.ch Go.Proofs.YtleeglgjaifejaaGreatDoor.fmtn Go.Proofs.YtleeglgjaifejaaGreatDoor.tabs Go.Proofs.YtleeglgjaifejaaGreatDoor.text Go.Proofs.YtleeglgjaifejaaGreatDoor.pieces
open Go.Proofs.YtleeglgjaifejaaGreatDoor.marks (FM infS fm_in fm_inf Mk spec_inf impl_inf spec_in impl_in spec_off impl_off spec_nay impl_nay)
open Go.Proofs.YtleeglgjaifejaaGreatDoor.dig (Num)
open Go.Proofs.YtleeglgjaifejaaGreatDoor.parInt (spec_num spec_not impl_num impl_not PNay PYes)
open Go.Proofs.YtleeglgjaifejaaGreatDoor.vars (Facts)
set_option linter.unusedVariables false
set_option linter.unusedSimpArgs false
/-- what the walks ask of the world: the listed variables, and the bound that strings.Index reads -/
def Env (w : World) : Prop := Facts w ∧ ∃ m, w.cell? ⟨0, 0, none⟩ = some (.int .i64 m)
theorem cell_lt {w : World} {a : Addr} {v : Value} (h : w.cell? a = some v) : a.block < w.heap.size := by
  rcases Nat.lt_or_ge a.block w.heap.size with h' | h'
  · exact h'
  · simp [World.cell?, Array.getElem?_eq_none h'] at h
theorem Env.below {w w' : World} (h : Env w) (hb : Below w.heap.size w w') : Env w' :=
  ⟨h.1.below hb, by obtain ⟨m, hm⟩ := h.2; exact ⟨m, (hb.cell (p := ⟨0, 0, none⟩) (cell_lt hm)).trans hm⟩⟩
theorem num_inj {s : ByteArray} {n m : Int} (h : Num s n) (h2 : Num s m) : n = m := by
  have h1 := Go.Proofs.YtleeglgjaifejaaGreatDoor.dig.atoi_itoa n
  rw [← h.1, h2.1, Go.Proofs.YtleeglgjaifejaaGreatDoor.dig.atoi_itoa m] at h1
  exact (Option.some.inj h1).symm
theorem num_S (n : Int) (h0 : -999999999 ≤ n) (h1 : n ≤ 999999999) : Num (S (itoa n)) n := ⟨rfl, h0, h1⟩
theorem spec_int (s : ByteArray) (hs : s.size ≤ 1048576) : ∃ (x : Int) (b : Bool), (∀ n, Num s n → x = n ∧ b = true) ∧
    ∀ w : World, Calls Tryz.prog 65 #[.string s] w fun e w' => e = .returned (.tuple #[.int .i64 x, .bool b]) ∧ Below w.heap.size w w' := by
  by_cases h : ∃ n, Num s n
  · obtain ⟨n, h⟩ := h
    exact ⟨n, true, fun m hm => ⟨num_inj h hm, rfl⟩, fun w  => spec_num s n w h⟩
  · have h : ∀ n, ¬ Num s n := fun n hn => h ⟨n, hn⟩
    exact ⟨0, false, fun m hm => absurd hm (h m), fun w  => spec_not s w hs h⟩
theorem spec_mk (s : ByteArray) (hl : s.size ≤ 1048576) : ∃ (x : Int) (b : Bool), (∀ n, 0 ≤ n → n ≤ 1000 → s = FM n → x = n) ∧
    ∀ w : World, Calls Tryz.prog 67 #[.string s] w fun e w' => e = .returned (.tuple #[.int .i64 x, .bool b]) ∧ Below w.heap.size w w' := by
  by_cases hs : s = infS
  · subst hs
    refine ⟨1000, true, fun n h0 h1 h => ?_, fun w  => spec_inf w⟩
    by_cases hn : n = 1000
    · exact hn.symm
    · exfalso
      rw [fm_in (by omega)] at h
      have : (105 : UInt8) ∈ itoa n := by
        have e : itoa n = infS.data.toList := by rw [h]; rfl
        rw [e]; decide
      exact itoa_no n 105 (by decide) this
  · by_cases h : ∃ n, Num s n
    · obtain ⟨n, h⟩ := h
      by_cases hr : 0 ≤ n ∧ n ≤ 999
      · obtain ⟨h0, h1⟩ := hr
        refine ⟨n, true, fun m g0 g1 hm => ?_, fun w  => spec_in s n w hs h h0 h1⟩
        by_cases hm2 : m = 1000
        · subst hm2
          exact absurd hm hs
        · rw [fm_in (by omega)] at hm
          subst hm
          exact num_inj h (num_S m (by omega) (by omega))
      · refine ⟨0, false, fun m g0 g1 hm => ?_, fun w  => spec_off s n w hs h hr⟩
        exfalso
        by_cases hm2 : m = 1000
        · subst hm2
          exact absurd hm hs
        · rw [fm_in (by omega)] at hm
          subst hm
          have := num_inj h (num_S m (by omega) (by omega))
          omega
    · have h : ∀ n, ¬ Num s n := fun n hn => h ⟨n, hn⟩
      refine ⟨0, false, fun m g0 g1 hm => ?_, fun w  => spec_nay s w hl hs h⟩
      exfalso
      by_cases hm2 : m = 1000
      · subst hm2
        exact absurd hm hs
      · rw [fm_in (by omega)] at hm
        subst hm
        exact h m (num_S m (by omega) (by omega))
theorem impl_int (s : ByteArray) (hs : s.size ≤ 1048576) : ∃ (x : Int) (b : Bool), (∀ n, Num s n → x = n ∧ b = true) ∧
    ∀ w : World, Facts w → Calls Tryz.prog 38 #[.string s] w fun e w' => e = .returned (.tuple #[.int .i64 x, .bool b]) ∧ Below w.heap.size w w' := by
  by_cases h : ∃ n, Num s n
  · obtain ⟨n, h⟩ := h
    exact ⟨n, true, fun m hm => ⟨num_inj h hm, rfl⟩, fun w hE => impl_num s n w h hE.1⟩
  · have h : ∀ n, ¬ Num s n := fun n hn => h ⟨n, hn⟩
    exact ⟨0, false, fun m hm => absurd hm (h m), fun w hE => impl_not s w hs h hE.1 hE.2.1 hE.2.2⟩
theorem impl_mk (s : ByteArray) (hl : s.size ≤ 1048576) : ∃ (x : Int) (b : Bool), (∀ n, 0 ≤ n → n ≤ 1000 → s = FM n → x = n) ∧
    ∀ w : World, Facts w → Calls Tryz.prog 18 #[.string s] w fun e w' => e = .returned (.tuple #[.int .i64 x, .bool b]) ∧ Below w.heap.size w w' := by
  by_cases hs : s = infS
  · subst hs
    refine ⟨1000, true, fun n h0 h1 h => ?_, fun w hE => impl_inf w⟩
    by_cases hn : n = 1000
    · exact hn.symm
    · exfalso
      rw [fm_in (by omega)] at h
      have : (105 : UInt8) ∈ itoa n := by
        have e : itoa n = infS.data.toList := by rw [h]; rfl
        rw [e]; decide
      exact itoa_no n 105 (by decide) this
  · by_cases h : ∃ n, Num s n
    · obtain ⟨n, h⟩ := h
      by_cases hr : 0 ≤ n ∧ n ≤ 999
      · obtain ⟨h0, h1⟩ := hr
        refine ⟨n, true, fun m g0 g1 hm => ?_, fun w hE => impl_in s n w hs h h0 h1 hE.1⟩
        by_cases hm2 : m = 1000
        · subst hm2
          exact absurd hm hs
        · rw [fm_in (by omega)] at hm
          subst hm
          exact num_inj h (num_S m (by omega) (by omega))
      · refine ⟨0, false, fun m g0 g1 hm => ?_, fun w hE => impl_off s n w hs h hr hE.1⟩
        exfalso
        by_cases hm2 : m = 1000
        · subst hm2
          exact absurd hm hs
        · rw [fm_in (by omega)] at hm
          subst hm
          have := num_inj h (num_S m (by omega) (by omega))
          omega
    · have h : ∀ n, ¬ Num s n := fun n hn => h ⟨n, hn⟩
      refine ⟨0, false, fun m g0 g1 hm => ?_, fun w hE => impl_nay s w hl hs h hE⟩
      exfalso
      by_cases hm2 : m = 1000
      · subst hm2
        exact absurd hm hs
      · rw [fm_in (by omega)] at hm
        subst hm
        exact h m (num_S m (by omega) (by omega))
/-- block g is just these cells -/
def Blk (w : World) (g : Nat) (t : TypeId) (cs : Array Value) : Prop := w.heap[g]? = some (.cells cs t (0, 0))
section
variable {w w' : World} {g : Nat} {t : TypeId} {cs : Array Value}
theorem Blk.lt (h : Blk w g t cs) : g < w.heap.size := by
  rcases Nat.lt_or_ge g w.heap.size with hlt | hge
  · exact hlt
  · unfold Blk at h; rw [Array.getElem?_eq_none hge] at h; cases h
theorem Blk.cell (h : Blk w g t cs) (i : Nat) : w.cell? ⟨g, i, none⟩ = cs[i]? := by unfold Blk at h; simp [World.cell?, h]
theorem Blk.frozen (h : Blk w g t cs) (i : Nat) : w.frozen? ⟨g, i, none⟩ = false := by unfold Blk at h; simp [World.frozen?, h]
theorem Blk.new (w : World) (t : TypeId) (cs : Array Value) : Blk (w.alloc (.cells cs t)) w.heap.size t cs := heap_alloc_new w _
theorem Blk.alloc (h : Blk w g t cs) (o : Obj) : Blk (w.alloc o) g t cs := (Below.heap_alloc w o g h.lt).trans h
theorem Blk.set_ (h : Blk w g t cs) (i : Nat) (u : Value) : Blk (w.setCell ⟨g, i, none⟩ u) g t (cs.setIfInBounds i u) := by
  unfold Blk at h ⊢
  simp [World.setCell, Array.getElem?_modify, h]
theorem Blk.far (h : Blk w g t cs) {p : Addr} (hp : g ≠ p.block) (u : Value) : Blk (w.setCell p u) g t cs := (Below.heap_setCell w p u g hp).trans h
theorem Blk.below {B : Nat} (h : Blk w g t cs) (hb : Below B w w') (hg : g < B) : Blk w' g t cs := (hb.block g hg).trans h
theorem Blk.grown {row : Option Nat} (h : Blk w g t cs) (hb : w.grownBy w' row) (hg : some g ≠ row) : Blk w' g t cs := (hb.block g h.lt hg).trans h
end
theorem cutS (s : ByteArray) (c : UInt8) : (⟨(cut s.data.toList [c]).1.toArray⟩ : ByteArray).size ≤ s.size ∧ (⟨(cut s.data.toList [c]).2.1.toArray⟩ : ByteArray).size ≤ s.size := by
  have h := Go.Proofs.YtleeglgjaifejaaGreatDoor.pieces.cut_le s.data.toList [c]
  constructor
  · show (List.toArray _).size ≤ s.data.size
    simpa using h.1
  · show (List.toArray _).size ≤ s.data.size
    simpa using h.2
/-- what the reader hands over, and what it keeps -/
def hd (s : ByteArray) (c : UInt8) : ByteArray := S (cut s.data.toList [c]).1
def tl (s : ByteArray) (c : UInt8) : ByteArray := S (cut s.data.toList [c]).2.1
theorem hd_size (s : ByteArray) (c : UInt8) : (hd s c).size ≤ s.size := (cutS s c).1
theorem tl_size (s : ByteArray) (c : UInt8) : (tl s c).size ≤ s.size := (cutS s c).2
theorem hd_hit {c : UInt8} {t : List UInt8} (h : c ∉ t) (r : List UInt8) : hd (S (t ++ c :: r)) c = S t := by
  unfold hd
  rw [show (S (t ++ c :: r)).data.toList = t ++ c :: r from rfl, cut_hit h]
theorem tl_hit {c : UInt8} {t : List UInt8} (h : c ∉ t) (r : List UInt8) : tl (S (t ++ c :: r)) c = S r := by
  unfold tl
  rw [show (S (t ++ c :: r)).data.toList = t ++ c :: r from rfl, cut_hit h]
theorem up_to {w : World} {b : Nat} {m : Int} (s : ByteArray) (c : UInt8) (hs : s.size ≤ 1048576) (hm : w.cell? ⟨0, 0, none⟩ = some (.int .i64 m)) (hb : Blk w b 74 #[.string s]) :
    Calls Tryz.prog 78 #[.pointer (some ⟨b, 0, none⟩), .string ⟨#[c]⟩] w fun e w' => e = .returned (.string (hd s c)) ∧ ∃ n, w' = (w.drewN n).setCell ⟨b, 0, none⟩ (.string (tl s c)) := by
  have hc : w.cell? ⟨b, 0, none⟩ = some (.string s) := hb.cell 0
  have hf := hb.frozen 0
  have HM := Lib.hid hm
  clear hm hb
  go_enter Tryz.func78, Tryz.ntmps78
  go_wp2_with fail
  refine (Tryz.strings_Cut s ⟨#[c]⟩ m w (by omega) HM.out).mono ?_
  rintro e W ⟨rfl, n, rfl⟩
  go_wp2_with fail
  go_ret
  exact ⟨rfl, n, rfl⟩
/-- the world behind a read: the reader's block holds the rest, and no other block that was there has turned -/
def Rd (w w' : World) (b : Nat) (r : ByteArray) : Prop := Blk w' b 74 #[.string r] ∧ w.grownBy w' (some b)
theorem rd_set {w : World} {b n : Nat} {s r : ByteArray} (hb : Blk w b 74 #[.string s]) : Rd w ((w.drewN n).setCell ⟨b, 0, none⟩ (.string r)) b r := by
  have h1 : Blk (w.drewN n) b 74 #[.string s] := hb
  have h2 := h1.set_ 0 (.string r)
  refine ⟨h2, rfl, rfl, rfl, ?_, fun i hi hne => ?_⟩
  · simp [World.setCell]
  · exact (Below.heap_setCell (w.drewN n) ⟨b, 0, none⟩ (.string r) i (by rintro rfl; exact hne rfl)).trans rfl
theorem Rd.trans_below {w w' w'' : World} {b : Nat} {r : ByteArray} (h : Rd w w' b r) (hb : Below w'.heap.size w' w'') : Rd w w'' b r :=
  ⟨h.1.below hb h.1.lt, hb.os.trans h.2.os, hb.tape.trans h.2.tape, hb.output.trans h.2.output, Nat.le_trans h.2.size hb.size, fun i hi hn => (hb.block i (Nat.lt_of_lt_of_le hi h.2.size)).trans (h.2.block i hi hn)⟩
theorem Rd.below {w0 w w' : World} {b : Nat} {r : ByteArray} (h : Rd w w' b r) (h0 : Below w0.heap.size w0 w) (hb : w0.heap.size ≤ b) : Below w0.heap.size w0 w' :=
  h0.grown h.2 h0.size (fun k hk => by injection hk with hk; omega)
theorem number (s : ByteArray) (c : UInt8) (hs : s.size ≤ 1048576) : ∃ x : Int, (∀ n, Num (hd s c) n → x = n) ∧
    ∀ (w0 w : World) (b : Nat), Env w0 → Below w0.heap.size w0 w → w0.heap.size ≤ b → Blk w b 74 #[.string s] →
      Calls Tryz.prog 61 #[.pointer (some ⟨b, 0, none⟩), .string ⟨#[c]⟩] w fun e w' => e = .returned (.int .i64 x) ∧ Rd w w' b (tl s c) := by
  obtain ⟨x, y, hx, hC⟩ := impl_int (hd s c) (Nat.le_trans (hd_size s c) hs)
  refine ⟨x, fun n hn => (hx n hn).1, fun w0 w b hE h0 hb0 hb => ?_⟩
  obtain ⟨m, hm⟩ := (hE.below h0).2
  have HU := Lib.hid (up_to s c hs hm hb)
  have HC := Lib.hid hC
  have HE := Lib.hid hE
  have H0 := Lib.hid h0
  have HB := Lib.hid hb
  clear hx hC hE h0 hm hb
  go_enter Tryz.func61, Tryz.ntmps61
  go_wp2_with fail
  refine HU.out.mono ?_
  rintro e W ⟨rfl, n, hW⟩
  have hR : Rd w W b (tl s c) := by rw [hW]; exact rd_set HB.out
  have HR := Lib.hid hR
  clear hW hR
  go_wp2_with fail
  refine (HC.out W (HE.out.below (HR.out.below H0.out hb0)).1).mono ?_
  rintro e W2 ⟨rfl, hb2⟩
  have HR2 := Lib.hid (HR.out.trans_below hb2)
  clear hb2
  go_wp2_with fail
  go_ret
  exact ⟨rfl, HR2.out⟩
theorem parse_value (s : ByteArray) (hs : s.size ≤ 1048576) : ∃ (x : Int) (b : Bool), (∀ n, -1 ≤ n → n ≤ 99 → s = vS n → x = n) ∧
    ∀ w : World, Facts w → Calls Tryz.prog 79 #[.string s] w fun e w' => e = .returned (.tuple #[.int .i64 x, .bool b]) ∧ Below w.heap.size w w' := by
  by_cases hd : s = ⟨#[45]⟩
  · subst hd
    refine ⟨-1, true, fun n h0 h1 h => ?_, fun w hE => ?_⟩
    · by_cases hn : n = -1
      · exact hn.symm
      · exfalso
        unfold vS at h
        rw [if_neg hn] at h
        have e : itoa n = [45] := by
          have := congrArg (fun x : ByteArray => x.data.toList) h
          exact this.symm
        unfold Go.Lib.itoa at e
        rw [if_neg (by omega)] at e
        have hb := Go.Proofs.YtleeglgjaifejaaGreatDoor.pieces.dec_bytes _ n.toNat (Nat.le_refl _) 45 (by rw [e]; simp)
        revert hb
        decide
    · clear hE
      go_enter Tryz.func79, Tryz.ntmps79
      go_wp2_with fail
      go_ret2
      exact ⟨rfl, Below.refl _ _⟩
  · obtain ⟨x, b, hx, hC⟩ := impl_int s hs
    refine ⟨x, b, fun n h0 h1 h => ?_, fun w hE => ?_⟩
    · have hn : n ≠ -1 := by
        rintro rfl
        exact hd h
      unfold vS at h
      rw [if_neg hn] at h
      subst h
      exact (hx n (num_S n (by omega) (by omega))).1
    · have hne : (s.toList == [45]) = false := by
        have : ¬ s.toList = [45] := fun e => hd (by
          have e2 : s.data.toList = [45] := by rw [← ByteArray.toList_eq]; exact e
          rw [← S_data s, e2]
          rfl)
        simpa using this
      have HC := Lib.hid (hC w hE)
      clear hx hC hE hd
      go_enter Tryz.func79, Tryz.ntmps79
      go_wp2_with fail
      refine HC.out.mono ?_
      rintro e W ⟨rfl, hb⟩
      go_wp2_with fail
      go_ret2
      exact ⟨rfl, hb⟩
theorem value_ (s : ByteArray) (c : UInt8) (hs : s.size ≤ 1048576) : ∃ x : Int, (∀ n, -1 ≤ n → n ≤ 99 → hd s c = vS n → x = n) ∧
    ∀ (w0 w : World) (b : Nat), Env w0 → Below w0.heap.size w0 w → w0.heap.size ≤ b → Blk w b 74 #[.string s] →
      Calls Tryz.prog 62 #[.pointer (some ⟨b, 0, none⟩), .string ⟨#[c]⟩] w fun e w' => e = .returned (.int .i64 x) ∧ Rd w w' b (tl s c) := by
  obtain ⟨x, y, hx, hC⟩ := parse_value (hd s c) (Nat.le_trans (hd_size s c) hs)
  refine ⟨x, hx, fun w0 w b hE h0 hb0 hb => ?_⟩
  obtain ⟨m, hm⟩ := (hE.below h0).2
  have HU := Lib.hid (up_to s c hs hm hb)
  have HC := Lib.hid hC
  have HE := Lib.hid hE
  have H0 := Lib.hid h0
  have HB := Lib.hid hb
  clear hx hC hE h0 hm hb
  go_enter Tryz.func62, Tryz.ntmps62
  go_wp2_with fail
  refine HU.out.mono ?_
  rintro e W ⟨rfl, n, hW⟩
  have hR : Rd w W b (tl s c) := by rw [hW]; exact rd_set HB.out
  have HR := Lib.hid hR
  clear hW hR
  go_wp2_with fail
  refine (HC.out W (HE.out.below (HR.out.below H0.out hb0)).1).mono ?_
  rintro e W2 ⟨rfl, hb2⟩
  have HR2 := Lib.hid (HR.out.trans_below hb2)
  clear hb2
  go_wp2_with fail
  go_ret
  exact ⟨rfl, HR2.out⟩
theorem S_inj {a b : List UInt8} (h : S a = S b) : a = b := congrArg (fun x : ByteArray => x.data.toList) h
theorem vt_vl (x : Ver) : vt x = S (itoa x.a ++ 58 :: (val x.b ++ 64 :: (itoa x.c ++ 44 :: (itoa x.d ++ 44 :: mk x.e)))) := by rw [vt_S, vl_is]
theorem num_range {x : Ver} (h : okV x = true) : (0 ≤ x.a ∧ x.a ≤ 9) ∧ (-1 ≤ x.b ∧ x.b ≤ 99) ∧ (0 ≤ x.c ∧ x.c ≤ 999) ∧ (0 ≤ x.d ∧ x.d ≤ 999) ∧ (1 ≤ x.e ∧ x.e ≤ 1000) := wf_v (ok_vP h)
theorem grown_below {w0 w w' : World} {b : Nat} (h0 : Below w0.heap.size w0 w) (hg : w.grownBy w' (some b)) (hb : w0.heap.size ≤ b) : Below w0.heap.size w0 w' :=
  h0.grown hg h0.size (fun k hk => by injection hk with hk; omega)
set_option maxRecDepth 100000 in
set_option maxHeartbeats 1600000 in
theorem read_version (t : ByteArray) (ht : t.size ≤ 1048576) : ∃ x : Ver, (∀ y : Ver, okV y = true → t = vt y → x = y) ∧
    ∀ w : World, Env w → Calls Tryz.prog 35 #[.string t] w fun e w' => e = .returned (.agg #[.int .i64 x.a, .int .i64 x.b, .int .i64 x.c, .int .i64 x.d, .int .i64 x.e]) ∧ Below w.heap.size w w' := by
  have t1 := tl_size t 58
  have t2 := tl_size (tl t 58) 64
  have t3 := tl_size (tl (tl t 58) 64) 44
  have t4 := tl_size (tl (tl (tl t 58) 64) 44) 44
  obtain ⟨xa, ha, Ca⟩ := number t 58 ht
  obtain ⟨xb, hb, Cb⟩ := value_ (tl t 58) 64 (by omega)
  obtain ⟨xc, hc, Cc⟩ := number (tl (tl t 58) 64) 44 (by omega)
  obtain ⟨xd, hd, Cd⟩ := number (tl (tl (tl t 58) 64) 44) 44 (by omega)
  obtain ⟨xe, ye, he, Ce⟩ := impl_mk (tl (tl (tl (tl t 58) 64) 44) 44) (by omega)
  refine ⟨⟨xa, xb, xc, xd, xe⟩, fun y hy hty => ?_, fun w hE => ?_⟩
  · obtain ⟨ra, rb, rc, rd, re⟩ := num_range hy
    rw [vt_vl] at hty
    subst hty
    have n1 := fun n => itoa_no n 58 (by decide)
    have n2 := fun n => val_no n 64 (by decide)
    have n3 := fun n => itoa_no n 44 (by decide)
    rw [tl_hit (n1 _)] at hb hc hd he
    rw [tl_hit (n2 _)] at hc hd he
    rw [tl_hit (n3 _)] at hd he
    rw [tl_hit (n3 _)] at he
    rw [hd_hit (n1 _)] at ha
    rw [hd_hit (n2 _)] at hb
    rw [hd_hit (n3 _)] at hc hd
    have e1 := ha y.a (num_S _ (by omega) (by omega))
    have e2 := hb y.b (by omega) (by omega) (vS_val _).symm
    have e3 := hc y.c (num_S _ (by omega) (by omega))
    have e4 := hd y.d (num_S _ (by omega) (by omega))
    have e5 := he y.e (by omega) (by omega) (FM_mk _).symm
    subst e1 e2 e3 e4 e5
    rfl
  · clear ha hb hc hd he
    have HE := Lib.hid hE
    have CA := Lib.hid Ca
    have CB := Lib.hid Cb
    have CC := Lib.hid Cc
    have CD := Lib.hid Cd
    have CE := Lib.hid Ce
    clear hE Ca Cb Cc Cd Ce t1 t2 t3 t4
    go_enter Tryz.func35, Tryz.ntmps35
    go_wp2_with fail
    have hbel := new3 w (.cells #[.int .i64 0, .int .i64 0, .int .i64 0, .int .i64 0, .int .i64 0] 30) (.cells #[.string t] 74) (.cells #[.int .i64 0, .int .i64 0, .int .i64 0, .int .i64 0, .int .i64 0] 30)
    have b2 : Blk (((w.alloc (.cells #[.int .i64 0, .int .i64 0, .int .i64 0, .int .i64 0, .int .i64 0] 30)).alloc (.cells #[.string t] 74)).alloc (.cells #[.int .i64 0, .int .i64 0, .int .i64 0, .int .i64 0, .int .i64 0] 30)) w.heap.size 30 #[.int .i64 0, .int .i64 0, .int .i64 0, .int .i64 0, .int .i64 0] := ((Blk.new w _ _).alloc _).alloc _
    have b3 : Blk (((w.alloc (.cells #[.int .i64 0, .int .i64 0, .int .i64 0, .int .i64 0, .int .i64 0] 30)).alloc (.cells #[.string t] 74)).alloc (.cells #[.int .i64 0, .int .i64 0, .int .i64 0, .int .i64 0, .int .i64 0] 30)) (w.heap.size + 1) 74 #[.string t] := by
      have := (Blk.new (w.alloc (.cells #[.int .i64 0, .int .i64 0, .int .i64 0, .int .i64 0, .int .i64 0] 30)) 74 #[.string t]).alloc (.cells #[.int .i64 0, .int .i64 0, .int .i64 0, .int .i64 0, .int .i64 0] 30)
      simpa using this
    have b4 : Blk (((w.alloc (.cells #[.int .i64 0, .int .i64 0, .int .i64 0, .int .i64 0, .int .i64 0] 30)).alloc (.cells #[.string t] 74)).alloc (.cells #[.int .i64 0, .int .i64 0, .int .i64 0, .int .i64 0, .int .i64 0] 30)) (w.heap.size + 1 + 1) 30 #[.int .i64 0, .int .i64 0, .int .i64 0, .int .i64 0, .int .i64 0] := by
      have := Blk.new ((w.alloc (.cells #[.int .i64 0, .int .i64 0, .int .i64 0, .int .i64 0, .int .i64 0] 30)).alloc (.cells #[.string t] 74)) 30 #[.int .i64 0, .int .i64 0, .int .i64 0, .int .i64 0, .int .i64 0]
      simpa using this
    generalize hN4 : w.heap.size + 1 + 1 = N4 at b4 ⊢
    generalize hN3 : w.heap.size + 1 = N3 at b3 ⊢
    have n3 : w.heap.size < N3 := by omega
    have n4 : N3 < N4 := by omega
    generalize (((w.alloc (.cells #[.int .i64 0, .int .i64 0, .int .i64 0, .int .i64 0, .int .i64 0] 30)).alloc (.cells #[.string t] 74)).alloc (.cells #[.int .i64 0, .int .i64 0, .int .i64 0, .int .i64 0, .int .i64 0] 30)) = U0 at hbel b2 b3 b4 ⊢
    have H0 := Lib.hid hbel
    have B2_0 := Lib.hid b2
    have B3_0 := Lib.hid b3
    have B4_0 := Lib.hid b4
    clear hbel b2 b3 b4 hN4 hN3
    refine (CA.out w U0 N3 HE.out H0.out (by omega) B3_0.out).mono ?_
    rintro e W1 ⟨rfl, hR⟩
    have b4 := B4_0.out.grown hR.2 (by simp; omega)
    have b2 := B2_0.out.grown hR.2 (by simp; omega)
    have hb1 := hR.below H0.out (by omega)
    have c0 : W1.cell? ⟨N4, 0, none⟩ = some (.int .i64 0) := b4.cell 0
    have f0 := b4.frozen 0
    have V4 : Hid (Blk (W1.setCell ⟨N4, 0, none⟩ (.int .i64 xa)) N4 30 #[.int .i64 xa, .int .i64 0, .int .i64 0, .int .i64 0, .int .i64 0]) := Lib.hid (b4.set_ 0 (.int .i64 xa))
    have V3 : Hid (Blk (W1.setCell ⟨N4, 0, none⟩ (.int .i64 xa)) N3 74 #[.string (tl t 58)]) := Lib.hid (hR.1.far (p := ⟨N4, 0, none⟩) (by show N3 ≠ N4; omega) _)
    have V2 : Hid (Blk (W1.setCell ⟨N4, 0, none⟩ (.int .i64 xa)) w.heap.size 30 #[.int .i64 0, .int .i64 0, .int .i64 0, .int .i64 0, .int .i64 0]) := Lib.hid (b2.far (p := ⟨N4, 0, none⟩) (by show w.heap.size ≠ N4; omega) _)
    have VB : Hid (Below w.heap.size w (W1.setCell ⟨N4, 0, none⟩ (.int .i64 xa))) := Lib.hid (hb1.setCell (p := ⟨N4, 0, none⟩) (by show w.heap.size ≤ N4; omega) _)
    clear b4 b2 hb1 hR
    go_wp2_with fail
    have v4 := V4.out
    have v3 := V3.out
    have v2 := V2.out
    have vb := VB.out
    generalize W1.setCell ⟨N4, 0, none⟩ (.int .i64 xa) = U1 at v4 v3 v2 vb ⊢
    have H1 := Lib.hid vb
    have B2_1 := Lib.hid v2
    have B3_1 := Lib.hid v3
    have B4_1 := Lib.hid v4
    clear v4 v3 v2 vb V4 V3 V2 VB c0 f0
    refine (CB.out w U1 N3 HE.out H1.out (by omega) B3_1.out).mono ?_
    rintro e W2 ⟨rfl, hR⟩
    have b4 := B4_1.out.grown hR.2 (by simp; omega)
    have b2 := B2_1.out.grown hR.2 (by simp; omega)
    have hb1 := hR.below H1.out (by omega)
    have c0 : W2.cell? ⟨N4, 1, none⟩ = some (.int .i64 0) := b4.cell 1
    have f0 := b4.frozen 1
    have V4 : Hid (Blk (W2.setCell ⟨N4, 1, none⟩ (.int .i64 xb)) N4 30 #[.int .i64 xa, .int .i64 xb, .int .i64 0, .int .i64 0, .int .i64 0]) := Lib.hid (b4.set_ 1 (.int .i64 xb))
    have V3 : Hid (Blk (W2.setCell ⟨N4, 1, none⟩ (.int .i64 xb)) N3 74 #[.string (tl (tl t 58) 64)]) := Lib.hid (hR.1.far (p := ⟨N4, 1, none⟩) (by show N3 ≠ N4; omega) _)
    have V2 : Hid (Blk (W2.setCell ⟨N4, 1, none⟩ (.int .i64 xb)) w.heap.size 30 #[.int .i64 0, .int .i64 0, .int .i64 0, .int .i64 0, .int .i64 0]) := Lib.hid (b2.far (p := ⟨N4, 1, none⟩) (by show w.heap.size ≠ N4; omega) _)
    have VB : Hid (Below w.heap.size w (W2.setCell ⟨N4, 1, none⟩ (.int .i64 xb))) := Lib.hid (hb1.setCell (p := ⟨N4, 1, none⟩) (by show w.heap.size ≤ N4; omega) _)
    clear b4 b2 hb1 hR
    go_wp2_with fail
    have v4 := V4.out
    have v3 := V3.out
    have v2 := V2.out
    have vb := VB.out
    generalize W2.setCell ⟨N4, 1, none⟩ (.int .i64 xb) = U2 at v4 v3 v2 vb ⊢
    have H2 := Lib.hid vb
    have B2_2 := Lib.hid v2
    have B3_2 := Lib.hid v3
    have B4_2 := Lib.hid v4
    clear v4 v3 v2 vb V4 V3 V2 VB c0 f0
    refine (CC.out w U2 N3 HE.out H2.out (by omega) B3_2.out).mono ?_
    rintro e W3 ⟨rfl, hR⟩
    have b4 := B4_2.out.grown hR.2 (by simp; omega)
    have b2 := B2_2.out.grown hR.2 (by simp; omega)
    have hb1 := hR.below H2.out (by omega)
    have c0 : W3.cell? ⟨N4, 2, none⟩ = some (.int .i64 0) := b4.cell 2
    have f0 := b4.frozen 2
    have V4 : Hid (Blk (W3.setCell ⟨N4, 2, none⟩ (.int .i64 xc)) N4 30 #[.int .i64 xa, .int .i64 xb, .int .i64 xc, .int .i64 0, .int .i64 0]) := Lib.hid (b4.set_ 2 (.int .i64 xc))
    have V3 : Hid (Blk (W3.setCell ⟨N4, 2, none⟩ (.int .i64 xc)) N3 74 #[.string (tl (tl (tl t 58) 64) 44)]) := Lib.hid (hR.1.far (p := ⟨N4, 2, none⟩) (by show N3 ≠ N4; omega) _)
    have V2 : Hid (Blk (W3.setCell ⟨N4, 2, none⟩ (.int .i64 xc)) w.heap.size 30 #[.int .i64 0, .int .i64 0, .int .i64 0, .int .i64 0, .int .i64 0]) := Lib.hid (b2.far (p := ⟨N4, 2, none⟩) (by show w.heap.size ≠ N4; omega) _)
    have VB : Hid (Below w.heap.size w (W3.setCell ⟨N4, 2, none⟩ (.int .i64 xc))) := Lib.hid (hb1.setCell (p := ⟨N4, 2, none⟩) (by show w.heap.size ≤ N4; omega) _)
    clear b4 b2 hb1 hR
    go_wp2_with fail
    have v4 := V4.out
    have v3 := V3.out
    have v2 := V2.out
    have vb := VB.out
    generalize W3.setCell ⟨N4, 2, none⟩ (.int .i64 xc) = U3 at v4 v3 v2 vb ⊢
    have H3 := Lib.hid vb
    have B2_3 := Lib.hid v2
    have B3_3 := Lib.hid v3
    have B4_3 := Lib.hid v4
    clear v4 v3 v2 vb V4 V3 V2 VB c0 f0
    refine (CD.out w U3 N3 HE.out H3.out (by omega) B3_3.out).mono ?_
    rintro e W4 ⟨rfl, hR⟩
    have b4 := B4_3.out.grown hR.2 (by simp; omega)
    have b2 := B2_3.out.grown hR.2 (by simp; omega)
    have hb1 := hR.below H3.out (by omega)
    have c0 : W4.cell? ⟨N4, 3, none⟩ = some (.int .i64 0) := b4.cell 3
    have f0 := b4.frozen 3
    have V4 : Hid (Blk (W4.setCell ⟨N4, 3, none⟩ (.int .i64 xd)) N4 30 #[.int .i64 xa, .int .i64 xb, .int .i64 xc, .int .i64 xd, .int .i64 0]) := Lib.hid (b4.set_ 3 (.int .i64 xd))
    have V3 : Hid (Blk (W4.setCell ⟨N4, 3, none⟩ (.int .i64 xd)) N3 74 #[.string (tl (tl (tl (tl t 58) 64) 44) 44)]) := Lib.hid (hR.1.far (p := ⟨N4, 3, none⟩) (by show N3 ≠ N4; omega) _)
    have V2 : Hid (Blk (W4.setCell ⟨N4, 3, none⟩ (.int .i64 xd)) w.heap.size 30 #[.int .i64 0, .int .i64 0, .int .i64 0, .int .i64 0, .int .i64 0]) := Lib.hid (b2.far (p := ⟨N4, 3, none⟩) (by show w.heap.size ≠ N4; omega) _)
    have VB : Hid (Below w.heap.size w (W4.setCell ⟨N4, 3, none⟩ (.int .i64 xd))) := Lib.hid (hb1.setCell (p := ⟨N4, 3, none⟩) (by show w.heap.size ≤ N4; omega) _)
    clear b4 b2 hb1 hR
    have r0 : (W4.setCell ⟨N4, 3, none⟩ (.int .i64 xd)).cell? ⟨N3, 0, none⟩ = some (.string (tl (tl (tl (tl t 58) 64) 44) 44)) := V3.out.cell 0
    go_wp2_with fail
    have v4 := V4.out
    have v3 := V3.out
    have v2 := V2.out
    have vb := VB.out
    generalize W4.setCell ⟨N4, 3, none⟩ (.int .i64 xd) = U4 at v4 v3 v2 vb r0 ⊢
    have H4 := Lib.hid vb
    have B2_4 := Lib.hid v2
    have B3_4 := Lib.hid v3
    have B4_4 := Lib.hid v4
    clear v4 v3 v2 vb V4 V3 V2 VB c0 f0 r0
    refine (CE.out U4 (HE.out.below H4.out).1).mono ?_
    rintro e W5 ⟨rfl, hb5⟩
    have b4 := B4_4.out.below hb5 B4_4.out.lt
    have b2 := B2_4.out.below hb5 B2_4.out.lt
    have hb1 : Below w.heap.size w W5 := H4.out.trans (hb5.mono H4.out.size)
    have c0 : W5.cell? ⟨N4, 4, none⟩ = some (.int .i64 0) := b4.cell 4
    have f0 := b4.frozen 4
    have v4 : Blk (W5.setCell ⟨N4, 4, none⟩ (.int .i64 xe)) N4 30 #[.int .i64 xa, .int .i64 xb, .int .i64 xc, .int .i64 xd, .int .i64 xe] := b4.set_ 4 (.int .i64 xe)
    have v2 : Blk (W5.setCell ⟨N4, 4, none⟩ (.int .i64 xe)) w.heap.size 30 #[.int .i64 0, .int .i64 0, .int .i64 0, .int .i64 0, .int .i64 0] := b2.far (p := ⟨N4, 4, none⟩) (by show w.heap.size ≠ N4; omega) _
    have vb : Below w.heap.size w (W5.setCell ⟨N4, 4, none⟩ (.int .i64 xe)) := hb1.setCell (p := ⟨N4, 4, none⟩) (by show w.heap.size ≤ N4; omega) _
    have k0 : (W5.setCell ⟨N4, 4, none⟩ (.int .i64 xe)).cell? ⟨N4, 0, none⟩ = some (.int .i64 xa) := v4.cell 0
    have z0 : (W5.setCell ⟨N4, 4, none⟩ (.int .i64 xe)).cell? ⟨w.heap.size, 0, none⟩ = some (.int .i64 0) := v2.cell 0
    have g0 := v2.frozen 0
    have k1 : (W5.setCell ⟨N4, 4, none⟩ (.int .i64 xe)).cell? ⟨N4, 1, none⟩ = some (.int .i64 xb) := v4.cell 1
    have z1 : (W5.setCell ⟨N4, 4, none⟩ (.int .i64 xe)).cell? ⟨w.heap.size, 1, none⟩ = some (.int .i64 0) := v2.cell 1
    have g1 := v2.frozen 1
    have k2 : (W5.setCell ⟨N4, 4, none⟩ (.int .i64 xe)).cell? ⟨N4, 2, none⟩ = some (.int .i64 xc) := v4.cell 2
    have z2 : (W5.setCell ⟨N4, 4, none⟩ (.int .i64 xe)).cell? ⟨w.heap.size, 2, none⟩ = some (.int .i64 0) := v2.cell 2
    have g2 := v2.frozen 2
    have k3 : (W5.setCell ⟨N4, 4, none⟩ (.int .i64 xe)).cell? ⟨N4, 3, none⟩ = some (.int .i64 xd) := v4.cell 3
    have z3 : (W5.setCell ⟨N4, 4, none⟩ (.int .i64 xe)).cell? ⟨w.heap.size, 3, none⟩ = some (.int .i64 0) := v2.cell 3
    have g3 := v2.frozen 3
    have k4 : (W5.setCell ⟨N4, 4, none⟩ (.int .i64 xe)).cell? ⟨N4, 4, none⟩ = some (.int .i64 xe) := v4.cell 4
    have z4 : (W5.setCell ⟨N4, 4, none⟩ (.int .i64 xe)).cell? ⟨w.heap.size, 4, none⟩ = some (.int .i64 0) := v2.cell 4
    have g4 := v2.frozen 4
    have hA : At (W5.setCell ⟨N4, 4, none⟩ (.int .i64 xe)) w.heap.size 0 ⟨0, 0, 0, 0, 0⟩ := ⟨z0, z1, z2, z3, z4⟩
    have HA := Lib.hid hA
    have VB := Lib.hid vb
    clear b4 b2 hb1 hb5 v4 v2 vb hA
    go_wp2_with fail
    have hs := Go.Proofs.YtleeglgjaifejaaGreatDoor.find.store5 HA.out ⟨xa, xb, xc, xd, xe⟩
    have hl := Go.Proofs.YtleeglgjaifejaaGreatDoor.find.below5 (b := w.heap.size) VB.out (Nat.le_refl _) ⟨xa, xb, xc, xd, xe⟩
    simp only at hs hl
    generalize ((((((W5.setCell _ _).setCell _ _).setCell _ _).setCell _ _).setCell _ _).setCell _ _) = Wf at hs hl ⊢
    obtain ⟨s0, s1, s2, s3, s4⟩ := atFlat hs
    simp only at s0 s1 s2 s3 s4
    exact bodyPost_ret (v := .agg #[.int .i64 xa, .int .i64 xb, .int .i64 xc, .int .i64 xd, .int .i64 xe]) (by simp [results, Tryz.results35, go_sem, s0, s1, s2, s3, s4]) rfl ⟨rfl, hl⟩
end Go.Proofs.YtleeglgjaifejaaGreatDoor.read
