/- How the model reads a version out of a piece of a text; nothing that was there is written. -/
import Derived.Test.YtleeglgjaifejaaGreatDoorSRead
import Derived.WalkKit
import Derived.ProofKit
import Derived.Below
import Derived.Lib.Hide
import Derived.LoopTactic
import Derived.Outline
import Derived.IntWalk
import Derived.WalkLawsBesides
namespace Go.Proofs.YtleeglgjaifejaaGreatDoor.sver
open Go.ChangeShapes Go.WideShapes Go.ChangeAt Go.RowKit
open Go.Lib (itoa)
open Go.Proofs.YtleeglgjaifejaaGreatDoor.vers Go.Proofs.YtleeglgjaifejaaGreatDoor.sl Go.Proofs.YtleeglgjaifejaaGreatDoor.ch Go.Proofs.YtleeglgjaifejaaGreatDoor.fmtn Go.Proofs.YtleeglgjaifejaaGreatDoor.tabs Go.Proofs.YtleeglgjaifejaaGreatDoor.text Go.Proofs.YtleeglgjaifejaaGreatDoor.pieces Go.Proofs.YtleeglgjaifejaaGreatDoor.parse Go.Proofs.YtleeglgjaifejaaGreatDoor.sread
open Go.Proofs.YtleeglgjaifejaaGreatDoor.marks (FM)
open Go.Proofs.YtleeglgjaifejaaGreatDoor.dig (Num)
open Go.Proofs.YtleeglgjaifejaaGreatDoor.read (Env Blk spec_int spec_mk num_S num_range vt_vl)
set_option linter.unusedVariables false
set_option linter.unusedSimpArgs false
def RPost (s : ByteArray) (w : World) (e : Ending) (w' : World) : Prop :=
  ∃ x : Ver, e = .returned (.agg #[.int .i64 x.a, .int .i64 x.b, .int .i64 x.c, .int .i64 x.d, .int .i64 x.e]) ∧ (∀ y, okV y = true → s = vt y → x = y) ∧ Below w.heap.size w w'
def rest (y : Ver) : List UInt8 := itoa y.c ++ 44 :: (itoa y.d ++ 44 :: mk y.e)
/-- what the pieces are where the text is a version's -/
def Hit (s pre r : ByteArray) : Prop := ∀ y, okV y = true → s = vt y → pre = S (itoa y.a) ∧ piec 64 [] r.data.toList = [val y.b, rest y] ∧ piec 44 [] (rest y) = [itoa y.c, itoa y.d, mk y.e]
theorem rest_pieces (y : Ver) : piec 44 [] (rest y) = [itoa y.c, itoa y.d, mk y.e] := by
  unfold rest
  rw [piec_cons (itoa_no _ 44 (by decide)), piec_cons (itoa_no _ 44 (by decide)), piec_last (mk_no _ 44 (by decide) (by decide))]
theorem rest_no (y : Ver) : (64 : UInt8) ∉ rest y := by
  unfold rest
  have h1 := fun n => itoa_no n 64 (by decide)
  have h3 := mk_no y.e 64 (by decide) (by decide)
  simp [h1, h3]
theorem first_at {c : UInt8} {t r L : List UInt8} {k : Nat} (hL : L = t ++ c :: r) (ht : c ∉ t) (hk : c ∉ L.take k) (hb : L[k]? = some c) : k = t.length := by
  rcases Nat.lt_trichotomy k t.length with h | h | h
  · exfalso
    rw [hL, List.getElem?_append_left h, List.getElem?_eq_getElem h] at hb
    exact ht (by rw [← Option.some.inj hb]; exact List.getElem_mem _)
  · exact h
  · exfalso
    apply hk
    have hm : c ∈ (t ++ [c]) := by simp
    have e : L.take k = (t ++ [c]) ++ (r.take (k - (t.length + 1))) := by
      rw [hL, show t ++ c :: r = (t ++ [c]) ++ r by simp, List.take_append, List.take_of_length_le (by simp; omega)]
      simp
    rw [e]
    exact List.mem_append_left _ hm
theorem hit_at {s : ByteArray} {k : Nat} (hk : k < s.size) (hno : (58 : UInt8) ∉ s.data.toList.take k) (hb : s.data.toList[k]? = some 58) : Hit s (s.extract 0 k) (s.extract (k + 1) s.size) := by
  intro y hy hs
  have hL : s.data.toList = itoa y.a ++ 58 :: (val y.b ++ 64 :: rest y) := by rw [hs, vt_vl]; rfl
  have hka := first_at hL (itoa_no _ 58 (by decide)) hno hb
  refine ⟨?_, ?_, rest_pieces y⟩
  · rw [ext_part]
    unfold Go.Proofs.YtleeglgjaifejaaGreatDoor.sread.part
    rw [List.drop_zero, Nat.sub_zero, hL, hka, List.take_left']
    rfl
  · have : (s.extract (k + 1) s.size).data.toList = val y.b ++ 64 :: rest y := by
      rw [ext_part]
      show Go.Proofs.YtleeglgjaifejaaGreatDoor.sread.part s.data.toList (k + 1) s.size = _
      unfold Go.Proofs.YtleeglgjaifejaaGreatDoor.sread.part
      have hsz : s.size = s.data.toList.length := Array.length_toList.symm
      rw [hsz, List.take_of_length_le (by rw [List.length_drop]; exact Nat.le_refl _), hL, hka]
      simp
    rw [this, piec_cons (val_no _ 64 (by decide)), piec_last (rest_no y)]
theorem hit_none {s pre r : ByteArray} (hno : (58 : UInt8) ∉ s.data.toList) : Hit s pre r := by
  intro y hy hs
  exfalso
  apply hno
  rw [hs, vt_vl]
  show (58 : UInt8) ∈ itoa y.a ++ 58 :: _
  simp
theorem piec_pos (c : UInt8) : ∀ (s acc : List UInt8), 0 < (piec c acc s).length
  | [], acc => by simp [piec]
  | b :: r, acc => by
    unfold piec
    split
    · simp
    · exact piec_pos c r _
theorem cut64 (s : ByteArray) (hs : s.size ≤ 1048576) (w : World) :
    Calls Tryz.prog 41 #[.string s, .int .u8 64] w fun e w' => Strs w.heap.size (piec 64 [] s.data.toList) e w' ∧ Below w.heap.size w w' := cut_text s 64 hs w
theorem cut44 (s : ByteArray) (hs : s.size ≤ 1048576) (w : World) :
    Calls Tryz.prog 41 #[.string s, .int .u8 44] w fun e w' => Strs w.heap.size (piec 44 [] s.data.toList) e w' ∧ Below w.heap.size w w' := cut_text s 44 hs w
theorem cut32 (s : ByteArray) (hs : s.size ≤ 1048576) (w : World) :
    Calls Tryz.prog 41 #[.string s, .int .u8 32] w fun e w' => Strs w.heap.size (piec 32 [] s.data.toList) e w' ∧ Below w.heap.size w w' := cut_text s 32 hs w
theorem S_size_le {x s : List UInt8} (h : x.length ≤ s.length) {m : Nat} (hs : (S s).size ≤ m) : (S x).size ≤ m := by rw [S_size] at hs ⊢; omega
/-- the first texts of a list that a call made -/
theorem strs_at {w : World} {B n : Nat} {v : Value} {P : List (List UInt8)} (h : w.ownsRow B 9 1 v n (P.map strV)) (hn : 0 < n) :
    ∃ g cap, v = .slice (some ⟨g, 0, none⟩) n cap ∧ B ≤ g ∧ g < w.heap.size ∧ ∀ (j : Nat) (x : List UInt8), P[j]? = some x → w.cell? ⟨g, j, none⟩ = some (.string (S x)) := by
  rcases h.2 with ⟨_, h0⟩ | ⟨g, cap, cur, hv, hbg, hgg, _⟩
  · omega
  · have hlt : g < w.heap.size := by
      rcases Nat.lt_or_ge g w.heap.size with h' | h'
      · exact h'
      · rw [Array.getElem?_eq_none h'] at hgg; cases hgg
    subst hv
    refine ⟨g, cap, rfl, hbg, hlt, fun j x hx => ?_⟩
    have := h.cells (g := g) rfl j (.string (S x)) (by rw [List.getElem?_map, hx]; rfl)
    rw [← this]
    congr 1
    unfold Addr.add
    split <;> simp_all
theorem far_cell {w : World} {a p : Addr} {u v : Value} (h : w.cell? a = some u) (hp : p.block ≠ a.block) : (w.setCell p v).cell? a = some u := (World.cell?_setCell_far w p a v hp).trans h
set_option maxRecDepth 100000 in
set_option maxHeartbeats 3200000 in
theorem read_text (s : ByteArray) (hs : s.size ≤ 1048576) (w : World) : Calls Tryz.prog 42 #[.string s] w (RPost s w) := by
  obtain ⟨L, hL⟩ : ∃ L, L = s.data.toList := ⟨_, rfl⟩
  have hLs : L.length = s.size := by rw [hL]; exact Array.length_toList
  have HL := Lib.hid hL
  have HLS := Lib.hid hLs
  clear hL hLs
  go_enter Tryz.func42, Tryz.ntmps42
  go_wp2
  have b2 := Go.Proofs.YtleeglgjaifejaaGreatDoor.read.Blk.new w 30 #[.int .i64 0, .int .i64 0, .int .i64 0, .int .i64 0, .int .i64 0]
  have hb0 := new1 w (.cells #[.int .i64 0, .int .i64 0, .int .i64 0, .int .i64 0, .int .i64 0] 30)
  generalize w.alloc (.cells #[.int .i64 0, .int .i64 0, .int .i64 0, .int .i64 0, .int .i64 0] 30) = U0 at b2 hb0 ⊢
  have B2_0 := Lib.hid b2
  have H0 := Lib.hid hb0
  clear b2 hb0
  go_loop [3] (fun i => ∃ k : Nat, k ≤ s.size ∧ i = .int .i64 k ∧ (58 : UInt8) ∉ L.take k) (fun i => s.size - (intOf i).toNat)
  case atStart => exact ⟨0, by omega, rfl, by simp⟩
  case round =>
    obtain ⟨k, hk, rfl, hno⟩ := hrel
    have HNO := Lib.hid hno
    clear hno
    by_cases hlt : k < s.size
    · have t : decide (k < s.size) = true := decide_eq_true hlt
      have hbk : L[k]? = some (s[k]'hlt) := by
        rw [HL.out, List.getElem?_eq_getElem (by rw [Array.length_toList]; exact hlt)]
        rfl
      have HBK := Lib.hid hbk
      clear hbk
      by_cases hc : s[k]'hlt = 58
      case neg =>
        have tc : (((s[k]'hlt).toNat : Int) == 58) = false := by
          have : ¬ (s[k]'hlt).toNat = (58 : UInt8).toNat := fun e => hc (UInt8.toNat_inj.1 e)
          have e58 : (58 : UInt8).toNat = 58 := rfl
          simp
          omega
        have HC := Lib.hid hc
        clear hc
        go_wp2_with fail
        go_round
        case rel =>
          refine ⟨k + 1, by omega, by go_num, ?_⟩
          rw [List.take_add_one, HBK.out]
          intro hm
          rcases List.mem_append.1 hm with hm | hm
          · exact HNO.out hm
          · simp at hm
            exact HC.out hm.symm
        case measure => simp [intOf]; omega
      · have tc : (((s[k]'hlt).toNat : Int) == 58) = true := by simp [hc]
        have hbk : L[k]? = some 58 := by rw [HBK.out, hc]
        have hhit := hit_at hlt (by rw [← HL.out]; exact HNO.out) (by rw [← HL.out]; exact hbk)
        have HHIT := Lib.hid hhit
        clear hc hbk hhit
        have m1 : IntKind.i64.wrap ((k : Int) + 1) = (k : Int) + 1 := IntWalk.i64_in _ (by omega)
        have m2 : min ((k : Int) + 1) (s.size : Int) = (k : Int) + 1 := by omega
        have m3 : ((k : Int) + 1).toNat = k + 1 := by omega
        have m4 : (0 : Int) ≤ (k : Int) + 1 := by omega
        have m5 : (k : Int) + 1 ≤ (s.size : Int) := by omega
        have hr0 : (s.extract 0 k).size ≤ 1048576 := by rw [ByteArray.size_extract]; omega
        have hr1 : (s.extract (k + 1) s.size).size ≤ 1048576 := by rw [ByteArray.size_extract]; omega
        obtain ⟨xa, ya, ha, CA0⟩ := spec_int (s.extract 0 k) hr0
        have CA := Lib.hid CA0
        have HA := Lib.hid ha
        have HR1 := Lib.hid hr1
        clear CA0 ha
        have k1 : (0 : Int) ≤ (k : Int) := by omega
        have k2 : (k : Int) ≤ (s.size : Int) := by omega
        go_wp2_with fail
        refine (CA.out U0).mono ?_
        rintro e W1 ⟨rfl, hb1⟩
        have B2_1 := Lib.hid (B2_0.out.below hb1 B2_0.out.lt)
        have H1 : Hid (Below w.heap.size w W1) := Lib.hid (H0.out.trans (hb1.mono H0.out.size))
        clear hb1
        go_wp2_with fail
        have b6 := Go.Proofs.YtleeglgjaifejaaGreatDoor.read.Blk.new W1 30 #[.int .i64 xa, .int .i64 (-2), .int .i64 0, .int .i64 0, .int .i64 0]
        have hb := H1.out.trans ((new1 W1 (.cells #[.int .i64 xa, .int .i64 (-2), .int .i64 0, .int .i64 0, .int .i64 0] 30)).mono H1.out.size)
        have b2 := B2_1.out.alloc (.cells #[.int .i64 xa, .int .i64 (-2), .int .i64 0, .int .i64 0, .int .i64 0] 30)
        have n6 : w.heap.size < W1.heap.size := B2_1.out.lt
        obtain ⟨N6, hN6⟩ : ∃ N, N = W1.heap.size := ⟨_, rfl⟩
        simp only [← hN6] at b6 n6 ⊢
        generalize W1.alloc (.cells #[.int .i64 xa, .int .i64 (-2), .int .i64 0, .int .i64 0, .int .i64 0] 30) = U1 at b6 hb b2 ⊢
        have B6_1 := Lib.hid b6
        have B2_2 := Lib.hid b2
        have H2 := Lib.hid hb
        clear b6 b2 hb hN6
        refine (cut64 (s.extract (k + 1) s.size) HR1.out U1).mono ?_
        rintro e W2 ⟨⟨v1, rfl, hown⟩, hb2⟩
        obtain ⟨g1, c1, rfl, hg1, hg1w, hcell⟩ := strs_at hown (piec_pos _ _ _)
        have hU1 := B6_1.out.lt
        have B6_2 := Lib.hid (B6_1.out.below hb2 B6_1.out.lt)
        have B2_3 := Lib.hid (B2_2.out.below hb2 B2_2.out.lt)
        have H3 : Hid (Below w.heap.size w W2) := Lib.hid (H2.out.trans (hb2.mono H2.out.size))
        obtain ⟨P1, hP1⟩ : ∃ P, P = piec 64 [] (s.extract (k + 1) s.size).data.toList := ⟨_, rfl⟩
        have hp1 := fun x => piec_size 64 (s.extract (k + 1) s.size).data.toList [] x
        rw [← hP1] at hcell hp1 ⊢
        have HP1 := Lib.hid hP1
        have HPZ1 := Lib.hid hp1
        have HCELL := Lib.hid hcell
        clear hown hb2 hP1 hp1 hcell
        by_cases hn1 : P1.length = 2
        case neg =>
          have t1 : ((P1.length : Int) == 2) = false := by simp; omega
          have k0' : W2.cell? ⟨N6, 0, none⟩ = some (.int .i64 xa) := B6_2.out.cell 0
          have z0 : W2.cell? ⟨w.heap.size, 0, none⟩ = some (.int .i64 0) := B2_3.out.cell 0
          have f0 := B2_3.out.frozen 0
          have k1' : W2.cell? ⟨N6, 1, none⟩ = some (.int .i64 (-2)) := B6_2.out.cell 1
          have z1 : W2.cell? ⟨w.heap.size, 1, none⟩ = some (.int .i64 0) := B2_3.out.cell 1
          have f1 := B2_3.out.frozen 1
          have k2' : W2.cell? ⟨N6, 2, none⟩ = some (.int .i64 0) := B6_2.out.cell 2
          have z2 : W2.cell? ⟨w.heap.size, 2, none⟩ = some (.int .i64 0) := B2_3.out.cell 2
          have f2 := B2_3.out.frozen 2
          have k3' : W2.cell? ⟨N6, 3, none⟩ = some (.int .i64 0) := B6_2.out.cell 3
          have z3 : W2.cell? ⟨w.heap.size, 3, none⟩ = some (.int .i64 0) := B2_3.out.cell 3
          have f3 := B2_3.out.frozen 3
          have k4' : W2.cell? ⟨N6, 4, none⟩ = some (.int .i64 0) := B6_2.out.cell 4
          have z4 : W2.cell? ⟨w.heap.size, 4, none⟩ = some (.int .i64 0) := B2_3.out.cell 4
          have f4 := B2_3.out.frozen 4
          have hA : At W2 w.heap.size 0 ⟨0, 0, 0, 0, 0⟩ := ⟨z0, z1, z2, z3, z4⟩
          have HAT := Lib.hid hA
          clear hA
          go_wp2_with fail
          have hs' := Go.Proofs.YtleeglgjaifejaaGreatDoor.find.store5 HAT.out ⟨xa, -2, 0, 0, 0⟩
          have hl' := Go.Proofs.YtleeglgjaifejaaGreatDoor.find.below5 (b := w.heap.size) H3.out (Nat.le_refl _) ⟨xa, -2, 0, 0, 0⟩
          simp only at hs' hl'
          generalize (((((W2.setCell _ _).setCell _ _).setCell _ _).setCell _ _).setCell _ _) = Wf at hs' hl' ⊢
          obtain ⟨s0, s1, s2, s3, s4⟩ := atFlat hs'
          simp only at s0 s1 s2 s3 s4
          exact bodyPost_ret (v := .agg #[.int .i64 xa, .int .i64 (-2), .int .i64 0, .int .i64 0, .int .i64 0]) (by simp [results, Tryz.results42, go_sem, s0, s1, s2, s3, s4]) rfl ⟨⟨xa, -2, 0, 0, 0⟩, rfl, (fun y hy he => by have h := (HHIT.out y hy he).2.1; rw [← HP1.out] at h; exact absurd (by rw [h]; rfl) hn1), hl'⟩
        obtain ⟨p, q, hpq⟩ : ∃ p q, P1 = [p, q] := by
          match P1, hn1 with
          | [p, q], _ => exact ⟨p, q, rfl⟩
        have t1 : ((P1.length : Int) == 2) = true := by rw [hpq]; rfl
        have cp : W2.cell? ⟨g1, 0, none⟩ = some (.string (S p)) := HCELL.out 0 p (by rw [hpq]; rfl)
        have cq : W2.cell? ⟨g1, 1, none⟩ = some (.string (S q)) := HCELL.out 1 q (by rw [hpq]; rfl)
        have hpz : (S p).size ≤ 1048576 := by have := HPZ1.out p (by rw [hpq]; simp); rw [S_size]; have e := HR1.out; have e2 : (s.extract (k + 1) s.size).data.toList.length = (s.extract (k + 1) s.size).size := Array.length_toList; rw [List.length_nil, Nat.zero_add] at this; omega
        have hqz : (S q).size ≤ 1048576 := by have := HPZ1.out q (by rw [hpq]; simp); rw [S_size]; have e := HR1.out; have e2 : (s.extract (k + 1) s.size).data.toList.length = (s.extract (k + 1) s.size).size := Array.length_toList; rw [List.length_nil, Nat.zero_add] at this; omega
        have HPQ := Lib.hid hpq
        have HQZ := Lib.hid hqz
        have CQ := Lib.hid cq
        obtain ⟨xb, hxb, CB0⟩ := num_text (S p) hpz
        have CB := Lib.hid CB0
        have HXB := Lib.hid hxb
        have hl1 : P1.length = 2 := hn1
        have HL1 := Lib.hid hl1
        have i0' : (0 : Int) < (P1.length : Int) := by omega
        have i1' : (1 : Int) < (P1.length : Int) := by omega
        clear CB0 hxb hpz hqz hpq cq hn1 hl1
        go_wp2_with fail
        refine (CB.out W2).mono ?_
        rintro e W3 ⟨rfl, hbk⟩
        have b6 := B6_2.out.below hbk B6_2.out.lt
        have b2 := B2_3.out.below hbk B2_3.out.lt
        have hbn : Below w.heap.size w W3 := H3.out.trans (hbk.mono H3.out.size)
        have cq : (W3.setCell ⟨N6, 1, none⟩ (.int .i64 xb)).cell? ⟨g1, 1, none⟩ = some (.string (S q)) := far_cell (p := ⟨N6, 1, none⟩) ((hbk.cell (p := ⟨g1, 1, none⟩) hg1w).trans CQ.out) (by show N6 ≠ g1; omega)
        have c0 : W3.cell? ⟨N6, 1, none⟩ = some (.int .i64 (-2)) := b6.cell 1
        have f0 := b6.frozen 1
        have v6 : Blk (W3.setCell ⟨N6, 1, none⟩ (.int .i64 xb)) N6 30 #[.int .i64 xa, .int .i64 xb, .int .i64 0, .int .i64 0, .int .i64 0] := b6.set_ 1 (.int .i64 xb)
        have v2 : Blk (W3.setCell ⟨N6, 1, none⟩ (.int .i64 xb)) w.heap.size 30 #[.int .i64 0, .int .i64 0, .int .i64 0, .int .i64 0, .int .i64 0] := b2.far (p := ⟨N6, 1, none⟩) (by show w.heap.size ≠ N6; omega) _
        have vb : Below w.heap.size w (W3.setCell ⟨N6, 1, none⟩ (.int .i64 xb)) := hbn.setCell (p := ⟨N6, 1, none⟩) (by show w.heap.size ≤ N6; omega) _
        have V6 := Lib.hid v6
        have V2 := Lib.hid v2
        have VB := Lib.hid vb
        have CQ2 := Lib.hid cq
        clear b6 b2 hbn hbk v6 v2 vb
        go_wp2_with fail
        have v6 := V6.out
        have v2 := V2.out
        have vb := VB.out
        have cq2 := CQ2.out
        generalize W3.setCell ⟨N6, 1, none⟩ (.int .i64 xb) = U3 at v6 v2 vb cq2 cq ⊢
        have B6_4 := Lib.hid v6
        have B2_4 := Lib.hid v2
        have H4 := Lib.hid vb
        clear v6 v2 vb cq2 cq c0 f0 V6 V2 VB CQ2 cp CQ
        refine (cut44 (S q) HQZ.out U3).mono ?_
        rintro e W4 ⟨⟨v2, rfl, hown⟩, hb2⟩
        obtain ⟨g2, c2, rfl, hg2, hg2w, hcell⟩ := strs_at hown (piec_pos _ _ _)
        have hU3 := B6_4.out.lt
        have B6_5 := Lib.hid (B6_4.out.below hb2 B6_4.out.lt)
        have B2_5 := Lib.hid (B2_4.out.below hb2 B2_4.out.lt)
        have H5 : Hid (Below w.heap.size w W4) := Lib.hid (H4.out.trans (hb2.mono H4.out.size))
        have hQ : (S q).data.toList = q := rfl
        rw [hQ] at hcell ⊢
        obtain ⟨P2, hP2⟩ : ∃ P, P = piec 44 [] q := ⟨_, rfl⟩
        have hp2 := fun x => piec_size 44 q [] x
        rw [← hP2] at hcell hp2 ⊢
        have HP2 := Lib.hid hP2
        have HPZ2 := Lib.hid hp2
        have HCELL2 := Lib.hid hcell
        clear hown hb2 hP2 hp2 hcell hQ
        by_cases hn2 : P2.length = 3
        case neg =>
          have t2 : ((P2.length : Int) == 3) = false := by simp; omega
          have k0' : W4.cell? ⟨N6, 0, none⟩ = some (.int .i64 xa) := B6_5.out.cell 0
          have z0 : W4.cell? ⟨w.heap.size, 0, none⟩ = some (.int .i64 0) := B2_5.out.cell 0
          have f0 := B2_5.out.frozen 0
          have k1' : W4.cell? ⟨N6, 1, none⟩ = some (.int .i64 xb) := B6_5.out.cell 1
          have z1 : W4.cell? ⟨w.heap.size, 1, none⟩ = some (.int .i64 0) := B2_5.out.cell 1
          have f1 := B2_5.out.frozen 1
          have k2' : W4.cell? ⟨N6, 2, none⟩ = some (.int .i64 0) := B6_5.out.cell 2
          have z2 : W4.cell? ⟨w.heap.size, 2, none⟩ = some (.int .i64 0) := B2_5.out.cell 2
          have f2 := B2_5.out.frozen 2
          have k3' : W4.cell? ⟨N6, 3, none⟩ = some (.int .i64 0) := B6_5.out.cell 3
          have z3 : W4.cell? ⟨w.heap.size, 3, none⟩ = some (.int .i64 0) := B2_5.out.cell 3
          have f3 := B2_5.out.frozen 3
          have k4' : W4.cell? ⟨N6, 4, none⟩ = some (.int .i64 0) := B6_5.out.cell 4
          have z4 : W4.cell? ⟨w.heap.size, 4, none⟩ = some (.int .i64 0) := B2_5.out.cell 4
          have f4 := B2_5.out.frozen 4
          have hA : At W4 w.heap.size 0 ⟨0, 0, 0, 0, 0⟩ := ⟨z0, z1, z2, z3, z4⟩
          have HAT := Lib.hid hA
          clear hA
          go_wp2_with fail
          have hs' := Go.Proofs.YtleeglgjaifejaaGreatDoor.find.store5 HAT.out ⟨xa, xb, 0, 0, 0⟩
          have hl' := Go.Proofs.YtleeglgjaifejaaGreatDoor.find.below5 (b := w.heap.size) H5.out (Nat.le_refl _) ⟨xa, xb, 0, 0, 0⟩
          simp only at hs' hl'
          generalize (((((W4.setCell _ _).setCell _ _).setCell _ _).setCell _ _).setCell _ _) = Wf at hs' hl' ⊢
          obtain ⟨s0, s1, s2, s3, s4⟩ := atFlat hs'
          simp only at s0 s1 s2 s3 s4
          exact bodyPost_ret (v := .agg #[.int .i64 xa, .int .i64 xb, .int .i64 0, .int .i64 0, .int .i64 0]) (by simp [results, Tryz.results42, go_sem, s0, s1, s2, s3, s4]) rfl ⟨⟨xa, xb, 0, 0, 0⟩, rfl, (fun y hy he => by have h := (HHIT.out y hy he).2.1; rw [← HP1.out, HPQ.out] at h; have h3 := (HHIT.out y hy he).2.2; have eq : q = rest y := (by injection h with _ h; injection h); rw [← eq, ← HP2.out] at h3; exact absurd (by rw [h3]; rfl) hn2), hl'⟩
        obtain ⟨a, b, c, habc⟩ : ∃ a b c, P2 = [a, b, c] := by
          match P2, hn2 with
          | [a, b, c], _ => exact ⟨a, b, c, rfl⟩
        have t2 : ((P2.length : Int) == 3) = true := by rw [habc]; rfl
        have ca : W4.cell? ⟨g2, 0, none⟩ = some (.string (S a)) := HCELL2.out 0 a (by rw [habc]; rfl)
        have za : (S a).size ≤ 1048576 := S_size_le (by have := HPZ2.out a (by rw [habc]; simp); rw [List.length_nil, Nat.zero_add] at this; exact this) HQZ.out
        have cb : W4.cell? ⟨g2, 1, none⟩ = some (.string (S b)) := HCELL2.out 1 b (by rw [habc]; rfl)
        have zb : (S b).size ≤ 1048576 := S_size_le (by have := HPZ2.out b (by rw [habc]; simp); rw [List.length_nil, Nat.zero_add] at this; exact this) HQZ.out
        have cc : W4.cell? ⟨g2, 2, none⟩ = some (.string (S c)) := HCELL2.out 2 c (by rw [habc]; rfl)
        have zc : (S c).size ≤ 1048576 := S_size_le (by have := HPZ2.out c (by rw [habc]; simp); rw [List.length_nil, Nat.zero_add] at this; exact this) HQZ.out
        have HABC := Lib.hid habc
        have hl2 : P2.length = 3 := hn2
        have HL2 := Lib.hid hl2
        have j0' : (0 : Int) < (P2.length : Int) := by omega
        have j1' : (1 : Int) < (P2.length : Int) := by omega
        have j2' : (2 : Int) < (P2.length : Int) := by omega
        obtain ⟨xc, yc, hxc, CC0⟩ := spec_int (S a) za
        obtain ⟨xd, yd, hxd, CD0⟩ := spec_int (S b) zb
        obtain ⟨xe, ye, hxe, CE0⟩ := spec_mk (S c) zc
        have CC := Lib.hid CC0
        have CD := Lib.hid CD0
        have CE := Lib.hid CE0
        have HXC := Lib.hid hxc
        have HXD := Lib.hid hxd
        have HXE := Lib.hid hxe
        have CB_ := Lib.hid cb
        have CC_ := Lib.hid cc
        clear CC0 CD0 CE0 hxc hxd hxe za zb zc habc cb cc hn2 hl2
        go_wp2_with fail
        refine (CC.out W4).mono ?_
        rintro e W5 ⟨rfl, hbk⟩
        have b6 := B6_5.out.below hbk B6_5.out.lt
        have b2 := B2_5.out.below hbk B2_5.out.lt
        have hbn : Below w.heap.size w W5 := H5.out.trans (hbk.mono H5.out.size)
        have cb : (W5.setCell ⟨N6, 2, none⟩ (.int .i64 xc)).cell? ⟨g2, 1, none⟩ = some (.string (S b)) := far_cell (p := ⟨N6, 2, none⟩) ((hbk.cell (p := ⟨g2, 1, none⟩) hg2w).trans CB_.out) (by show N6 ≠ g2; omega)
        have cc : (W5.setCell ⟨N6, 2, none⟩ (.int .i64 xc)).cell? ⟨g2, 2, none⟩ = some (.string (S c)) := far_cell (p := ⟨N6, 2, none⟩) ((hbk.cell (p := ⟨g2, 2, none⟩) hg2w).trans CC_.out) (by show N6 ≠ g2; omega)
        have c0 : W5.cell? ⟨N6, 2, none⟩ = some (.int .i64 0) := b6.cell 2
        have f0 := b6.frozen 2
        have v6 : Blk (W5.setCell ⟨N6, 2, none⟩ (.int .i64 xc)) N6 30 #[.int .i64 xa, .int .i64 xb, .int .i64 xc, .int .i64 0, .int .i64 0] := b6.set_ 2 (.int .i64 xc)
        have v2 : Blk (W5.setCell ⟨N6, 2, none⟩ (.int .i64 xc)) w.heap.size 30 #[.int .i64 0, .int .i64 0, .int .i64 0, .int .i64 0, .int .i64 0] := b2.far (p := ⟨N6, 2, none⟩) (by show w.heap.size ≠ N6; omega) _
        have vb : Below w.heap.size w (W5.setCell ⟨N6, 2, none⟩ (.int .i64 xc)) := hbn.setCell (p := ⟨N6, 2, none⟩) (by show w.heap.size ≤ N6; omega) _
        have V6 := Lib.hid v6
        have V2 := Lib.hid v2
        have VB := Lib.hid vb
        have C3 := Lib.hid cc
        have hz5 : W4.heap.size ≤ W5.heap.size := hbk.size
        clear b6 b2 hbn hbk v6 v2 vb cc
        go_wp2_with fail
        have v6 := V6.out
        have v2 := V2.out
        have vb := VB.out
        have cc := C3.out
        have hz6 : W4.heap.size ≤ (W5.setCell ⟨N6, 2, none⟩ (.int .i64 xc)).heap.size := by simpa [World.setCell] using hz5
        generalize W5.setCell ⟨N6, 2, none⟩ (.int .i64 xc) = U5 at v6 v2 vb cc cb hz6 ⊢
        have B6_6 := Lib.hid v6
        have B2_6 := Lib.hid v2
        have H6 := Lib.hid vb
        have CC2 := Lib.hid cc
        clear v6 v2 vb cc cb c0 f0 V6 V2 VB C3
        refine (CD.out U5).mono ?_
        rintro e W6 ⟨rfl, hbk⟩
        have b6 := B6_6.out.below hbk B6_6.out.lt
        have b2 := B2_6.out.below hbk B2_6.out.lt
        have hbn : Below w.heap.size w W6 := H6.out.trans (hbk.mono H6.out.size)
        have cc : (W6.setCell ⟨N6, 3, none⟩ (.int .i64 xd)).cell? ⟨g2, 2, none⟩ = some (.string (S c)) := far_cell (p := ⟨N6, 3, none⟩) ((hbk.cell (p := ⟨g2, 2, none⟩) (Nat.lt_of_lt_of_le hg2w hz6)).trans CC2.out) (by show N6 ≠ g2; omega)
        have c0 : W6.cell? ⟨N6, 3, none⟩ = some (.int .i64 0) := b6.cell 3
        have f0 := b6.frozen 3
        have v6 : Blk (W6.setCell ⟨N6, 3, none⟩ (.int .i64 xd)) N6 30 #[.int .i64 xa, .int .i64 xb, .int .i64 xc, .int .i64 xd, .int .i64 0] := b6.set_ 3 (.int .i64 xd)
        have v2 : Blk (W6.setCell ⟨N6, 3, none⟩ (.int .i64 xd)) w.heap.size 30 #[.int .i64 0, .int .i64 0, .int .i64 0, .int .i64 0, .int .i64 0] := b2.far (p := ⟨N6, 3, none⟩) (by show w.heap.size ≠ N6; omega) _
        have vb : Below w.heap.size w (W6.setCell ⟨N6, 3, none⟩ (.int .i64 xd)) := hbn.setCell (p := ⟨N6, 3, none⟩) (by show w.heap.size ≤ N6; omega) _
        have V6 := Lib.hid v6
        have V2 := Lib.hid v2
        have VB := Lib.hid vb
        clear b6 b2 hbn hbk v6 v2 vb
        go_wp2_with fail
        have v6 := V6.out
        have v2 := V2.out
        have vb := VB.out
        generalize W6.setCell ⟨N6, 3, none⟩ (.int .i64 xd) = U6 at v6 v2 vb cc ⊢
        have B6_7 := Lib.hid v6
        have B2_7 := Lib.hid v2
        have H7 := Lib.hid vb
        clear v6 v2 vb cc c0 f0 V6 V2 VB
        refine (CE.out U6).mono ?_
        rintro e W7 ⟨rfl, hbk⟩
        have b6 := B6_7.out.below hbk B6_7.out.lt
        have b2 := B2_7.out.below hbk B2_7.out.lt
        have hbn : Below w.heap.size w W7 := H7.out.trans (hbk.mono H7.out.size)
        have c0 : W7.cell? ⟨N6, 4, none⟩ = some (.int .i64 0) := b6.cell 4
        have f0 := b6.frozen 4
        have v6 : Blk (W7.setCell ⟨N6, 4, none⟩ (.int .i64 xe)) N6 30 #[.int .i64 xa, .int .i64 xb, .int .i64 xc, .int .i64 xd, .int .i64 xe] := b6.set_ 4 (.int .i64 xe)
        have v2 : Blk (W7.setCell ⟨N6, 4, none⟩ (.int .i64 xe)) w.heap.size 30 #[.int .i64 0, .int .i64 0, .int .i64 0, .int .i64 0, .int .i64 0] := b2.far (p := ⟨N6, 4, none⟩) (by show w.heap.size ≠ N6; omega) _
        have vb : Below w.heap.size w (W7.setCell ⟨N6, 4, none⟩ (.int .i64 xe)) := hbn.setCell (p := ⟨N6, 4, none⟩) (by show w.heap.size ≤ N6; omega) _
        have k0' : (W7.setCell ⟨N6, 4, none⟩ (.int .i64 xe)).cell? ⟨N6, 0, none⟩ = some (.int .i64 xa) := v6.cell 0
        have z0 : (W7.setCell ⟨N6, 4, none⟩ (.int .i64 xe)).cell? ⟨w.heap.size, 0, none⟩ = some (.int .i64 0) := v2.cell 0
        have f0' := v2.frozen 0
        have k1' : (W7.setCell ⟨N6, 4, none⟩ (.int .i64 xe)).cell? ⟨N6, 1, none⟩ = some (.int .i64 xb) := v6.cell 1
        have z1 : (W7.setCell ⟨N6, 4, none⟩ (.int .i64 xe)).cell? ⟨w.heap.size, 1, none⟩ = some (.int .i64 0) := v2.cell 1
        have f1' := v2.frozen 1
        have k2' : (W7.setCell ⟨N6, 4, none⟩ (.int .i64 xe)).cell? ⟨N6, 2, none⟩ = some (.int .i64 xc) := v6.cell 2
        have z2 : (W7.setCell ⟨N6, 4, none⟩ (.int .i64 xe)).cell? ⟨w.heap.size, 2, none⟩ = some (.int .i64 0) := v2.cell 2
        have f2' := v2.frozen 2
        have k3' : (W7.setCell ⟨N6, 4, none⟩ (.int .i64 xe)).cell? ⟨N6, 3, none⟩ = some (.int .i64 xd) := v6.cell 3
        have z3 : (W7.setCell ⟨N6, 4, none⟩ (.int .i64 xe)).cell? ⟨w.heap.size, 3, none⟩ = some (.int .i64 0) := v2.cell 3
        have f3' := v2.frozen 3
        have k4' : (W7.setCell ⟨N6, 4, none⟩ (.int .i64 xe)).cell? ⟨N6, 4, none⟩ = some (.int .i64 xe) := v6.cell 4
        have z4 : (W7.setCell ⟨N6, 4, none⟩ (.int .i64 xe)).cell? ⟨w.heap.size, 4, none⟩ = some (.int .i64 0) := v2.cell 4
        have f4' := v2.frozen 4
        have hA : At (W7.setCell ⟨N6, 4, none⟩ (.int .i64 xe)) w.heap.size 0 ⟨0, 0, 0, 0, 0⟩ := ⟨z0, z1, z2, z3, z4⟩
        have HAT := Lib.hid hA
        have VB := Lib.hid vb
        clear b6 b2 hbn hbk v6 v2 vb hA
        go_wp2_with fail
        have hs' := Go.Proofs.YtleeglgjaifejaaGreatDoor.find.store5 HAT.out ⟨xa, xb, xc, xd, xe⟩
        have hl' := Go.Proofs.YtleeglgjaifejaaGreatDoor.find.below5 (b := w.heap.size) VB.out (Nat.le_refl _) ⟨xa, xb, xc, xd, xe⟩
        simp only at hs' hl'
        generalize ((((((W7.setCell _ _).setCell _ _).setCell _ _).setCell _ _).setCell _ _).setCell _ _) = Wf at hs' hl' ⊢
        obtain ⟨s0, s1, s2, s3, s4⟩ := atFlat hs'
        simp only at s0 s1 s2 s3 s4
        refine bodyPost_ret (v := .agg #[.int .i64 xa, .int .i64 xb, .int .i64 xc, .int .i64 xd, .int .i64 xe]) (by simp [results, Tryz.results42, go_sem, s0, s1, s2, s3, s4]) rfl ⟨⟨xa, xb, xc, xd, xe⟩, rfl, fun y hy he => ?_, hl'⟩
        obtain ⟨h1, h2, h3⟩ := HHIT.out y hy he
        rw [← HP1.out, HPQ.out] at h2
        have ep : p = val y.b := by injection h2
        have eq : q = rest y := by injection h2 with _ h; injection h
        rw [← eq, ← HP2.out, HABC.out] at h3
        have ea : a = itoa y.c := by injection h3
        have eb : b = itoa y.d := by injection h3 with _ h; injection h
        have ec : c = mk y.e := by injection h3 with _ h; injection h with _ h; injection h
        obtain ⟨ra, rb, rc, rd, re⟩ := num_range hy
        have e1 := (HA.out y.a (by rw [h1]; exact num_S _ (by omega) (by omega))).1
        have e2 := HXB.out y.b (by omega) (by omega) (by rw [ep, vS_val])
        have e3 := (HXC.out y.c (by rw [ea]; exact num_S _ (by omega) (by omega))).1
        have e4 := (HXD.out y.d (by rw [eb]; exact num_S _ (by omega) (by omega))).1
        have e5 := HXE.out y.e (by omega) (by omega) (by rw [ec, ← FM_mk])
        rw [e1, e2, e3, e4, e5]
    · have t : decide (k < s.size) = false := decide_eq_false hlt
      have hks : k = s.size := by omega
      have hhit : Hit s (s.extract 0 k) ByteArray.empty := hit_none (by
        have h := HNO.out
        rw [List.take_of_length_le (by have := HLS.out; omega), HL.out] at h
        exact h)
      have HHIT := Lib.hid hhit
      clear hhit hks
      have m1 : IntKind.i64.wrap ((k : Int) + 1) = (k : Int) + 1 := IntWalk.i64_in _ (by omega)
      have m2 : min ((k : Int) + 1) (s.size : Int) = (s.size : Int) := by omega
      have hr0 : (s.extract 0 k).size ≤ 1048576 := by rw [ByteArray.size_extract]; omega
      have hr1 : (ByteArray.empty).size ≤ 1048576 := by decide
      obtain ⟨xa, ya, ha, CA0⟩ := spec_int (s.extract 0 k) hr0
      have CA := Lib.hid CA0
      have HA := Lib.hid ha
      have HR1 := Lib.hid hr1
      clear CA0 ha
      have k1 : (0 : Int) ≤ (k : Int) := by omega
      have k2 : (k : Int) ≤ (s.size : Int) := by omega
      go_wp2_with fail
      refine (CA.out U0).mono ?_
      rintro e W1 ⟨rfl, hb1⟩
      have B2_1 := Lib.hid (B2_0.out.below hb1 B2_0.out.lt)
      have H1 : Hid (Below w.heap.size w W1) := Lib.hid (H0.out.trans (hb1.mono H0.out.size))
      clear hb1
      go_wp2_with fail
      have b6 := Go.Proofs.YtleeglgjaifejaaGreatDoor.read.Blk.new W1 30 #[.int .i64 xa, .int .i64 (-2), .int .i64 0, .int .i64 0, .int .i64 0]
      have hb := H1.out.trans ((new1 W1 (.cells #[.int .i64 xa, .int .i64 (-2), .int .i64 0, .int .i64 0, .int .i64 0] 30)).mono H1.out.size)
      have b2 := B2_1.out.alloc (.cells #[.int .i64 xa, .int .i64 (-2), .int .i64 0, .int .i64 0, .int .i64 0] 30)
      have n6 : w.heap.size < W1.heap.size := B2_1.out.lt
      obtain ⟨N6, hN6⟩ : ∃ N, N = W1.heap.size := ⟨_, rfl⟩
      simp only [← hN6] at b6 n6 ⊢
      generalize W1.alloc (.cells #[.int .i64 xa, .int .i64 (-2), .int .i64 0, .int .i64 0, .int .i64 0] 30) = U1 at b6 hb b2 ⊢
      have B6_1 := Lib.hid b6
      have B2_2 := Lib.hid b2
      have H2 := Lib.hid hb
      clear b6 b2 hb hN6
      refine (cut64 (ByteArray.empty) HR1.out U1).mono ?_
      rintro e W2 ⟨⟨v1, rfl, hown⟩, hb2⟩
      obtain ⟨g1, c1, rfl, hg1, hg1w, hcell⟩ := strs_at hown (piec_pos _ _ _)
      have hU1 := B6_1.out.lt
      have B6_2 := Lib.hid (B6_1.out.below hb2 B6_1.out.lt)
      have B2_3 := Lib.hid (B2_2.out.below hb2 B2_2.out.lt)
      have H3 : Hid (Below w.heap.size w W2) := Lib.hid (H2.out.trans (hb2.mono H2.out.size))
      obtain ⟨P1, hP1⟩ : ∃ P, P = piec 64 [] (ByteArray.empty).data.toList := ⟨_, rfl⟩
      have hp1 := fun x => piec_size 64 (ByteArray.empty).data.toList [] x
      rw [← hP1] at hcell hp1 ⊢
      have HP1 := Lib.hid hP1
      have HPZ1 := Lib.hid hp1
      have HCELL := Lib.hid hcell
      clear hown hb2 hP1 hp1 hcell
      by_cases hn1 : P1.length = 2
      case neg =>
        have t1 : ((P1.length : Int) == 2) = false := by simp; omega
        have k0' : W2.cell? ⟨N6, 0, none⟩ = some (.int .i64 xa) := B6_2.out.cell 0
        have z0 : W2.cell? ⟨w.heap.size, 0, none⟩ = some (.int .i64 0) := B2_3.out.cell 0
        have f0 := B2_3.out.frozen 0
        have k1' : W2.cell? ⟨N6, 1, none⟩ = some (.int .i64 (-2)) := B6_2.out.cell 1
        have z1 : W2.cell? ⟨w.heap.size, 1, none⟩ = some (.int .i64 0) := B2_3.out.cell 1
        have f1 := B2_3.out.frozen 1
        have k2' : W2.cell? ⟨N6, 2, none⟩ = some (.int .i64 0) := B6_2.out.cell 2
        have z2 : W2.cell? ⟨w.heap.size, 2, none⟩ = some (.int .i64 0) := B2_3.out.cell 2
        have f2 := B2_3.out.frozen 2
        have k3' : W2.cell? ⟨N6, 3, none⟩ = some (.int .i64 0) := B6_2.out.cell 3
        have z3 : W2.cell? ⟨w.heap.size, 3, none⟩ = some (.int .i64 0) := B2_3.out.cell 3
        have f3 := B2_3.out.frozen 3
        have k4' : W2.cell? ⟨N6, 4, none⟩ = some (.int .i64 0) := B6_2.out.cell 4
        have z4 : W2.cell? ⟨w.heap.size, 4, none⟩ = some (.int .i64 0) := B2_3.out.cell 4
        have f4 := B2_3.out.frozen 4
        have hA : At W2 w.heap.size 0 ⟨0, 0, 0, 0, 0⟩ := ⟨z0, z1, z2, z3, z4⟩
        have HAT := Lib.hid hA
        clear hA
        go_wp2_with fail
        have hs' := Go.Proofs.YtleeglgjaifejaaGreatDoor.find.store5 HAT.out ⟨xa, -2, 0, 0, 0⟩
        have hl' := Go.Proofs.YtleeglgjaifejaaGreatDoor.find.below5 (b := w.heap.size) H3.out (Nat.le_refl _) ⟨xa, -2, 0, 0, 0⟩
        simp only at hs' hl'
        generalize (((((W2.setCell _ _).setCell _ _).setCell _ _).setCell _ _).setCell _ _) = Wf at hs' hl' ⊢
        obtain ⟨s0, s1, s2, s3, s4⟩ := atFlat hs'
        simp only at s0 s1 s2 s3 s4
        exact bodyPost_ret (v := .agg #[.int .i64 xa, .int .i64 (-2), .int .i64 0, .int .i64 0, .int .i64 0]) (by simp [results, Tryz.results42, go_sem, s0, s1, s2, s3, s4]) rfl ⟨⟨xa, -2, 0, 0, 0⟩, rfl, (fun y hy he => by have h := (HHIT.out y hy he).2.1; rw [← HP1.out] at h; exact absurd (by rw [h]; rfl) hn1), hl'⟩
      obtain ⟨p, q, hpq⟩ : ∃ p q, P1 = [p, q] := by
        match P1, hn1 with
        | [p, q], _ => exact ⟨p, q, rfl⟩
      have t1 : ((P1.length : Int) == 2) = true := by rw [hpq]; rfl
      have cp : W2.cell? ⟨g1, 0, none⟩ = some (.string (S p)) := HCELL.out 0 p (by rw [hpq]; rfl)
      have cq : W2.cell? ⟨g1, 1, none⟩ = some (.string (S q)) := HCELL.out 1 q (by rw [hpq]; rfl)
      have hpz : (S p).size ≤ 1048576 := by have := HPZ1.out p (by rw [hpq]; simp); rw [S_size]; have e := HR1.out; have e2 : (ByteArray.empty).data.toList.length = (ByteArray.empty).size := Array.length_toList; rw [List.length_nil, Nat.zero_add] at this; omega
      have hqz : (S q).size ≤ 1048576 := by have := HPZ1.out q (by rw [hpq]; simp); rw [S_size]; have e := HR1.out; have e2 : (ByteArray.empty).data.toList.length = (ByteArray.empty).size := Array.length_toList; rw [List.length_nil, Nat.zero_add] at this; omega
      have HPQ := Lib.hid hpq
      have HQZ := Lib.hid hqz
      have CQ := Lib.hid cq
      obtain ⟨xb, hxb, CB0⟩ := num_text (S p) hpz
      have CB := Lib.hid CB0
      have HXB := Lib.hid hxb
      have hl1 : P1.length = 2 := hn1
      have HL1 := Lib.hid hl1
      have i0' : (0 : Int) < (P1.length : Int) := by omega
      have i1' : (1 : Int) < (P1.length : Int) := by omega
      clear CB0 hxb hpz hqz hpq cq hn1 hl1
      go_wp2_with fail
      refine (CB.out W2).mono ?_
      rintro e W3 ⟨rfl, hbk⟩
      have b6 := B6_2.out.below hbk B6_2.out.lt
      have b2 := B2_3.out.below hbk B2_3.out.lt
      have hbn : Below w.heap.size w W3 := H3.out.trans (hbk.mono H3.out.size)
      have cq : (W3.setCell ⟨N6, 1, none⟩ (.int .i64 xb)).cell? ⟨g1, 1, none⟩ = some (.string (S q)) := far_cell (p := ⟨N6, 1, none⟩) ((hbk.cell (p := ⟨g1, 1, none⟩) hg1w).trans CQ.out) (by show N6 ≠ g1; omega)
      have c0 : W3.cell? ⟨N6, 1, none⟩ = some (.int .i64 (-2)) := b6.cell 1
      have f0 := b6.frozen 1
      have v6 : Blk (W3.setCell ⟨N6, 1, none⟩ (.int .i64 xb)) N6 30 #[.int .i64 xa, .int .i64 xb, .int .i64 0, .int .i64 0, .int .i64 0] := b6.set_ 1 (.int .i64 xb)
      have v2 : Blk (W3.setCell ⟨N6, 1, none⟩ (.int .i64 xb)) w.heap.size 30 #[.int .i64 0, .int .i64 0, .int .i64 0, .int .i64 0, .int .i64 0] := b2.far (p := ⟨N6, 1, none⟩) (by show w.heap.size ≠ N6; omega) _
      have vb : Below w.heap.size w (W3.setCell ⟨N6, 1, none⟩ (.int .i64 xb)) := hbn.setCell (p := ⟨N6, 1, none⟩) (by show w.heap.size ≤ N6; omega) _
      have V6 := Lib.hid v6
      have V2 := Lib.hid v2
      have VB := Lib.hid vb
      have CQ2 := Lib.hid cq
      clear b6 b2 hbn hbk v6 v2 vb
      go_wp2_with fail
      have v6 := V6.out
      have v2 := V2.out
      have vb := VB.out
      have cq2 := CQ2.out
      generalize W3.setCell ⟨N6, 1, none⟩ (.int .i64 xb) = U3 at v6 v2 vb cq2 cq ⊢
      have B6_4 := Lib.hid v6
      have B2_4 := Lib.hid v2
      have H4 := Lib.hid vb
      clear v6 v2 vb cq2 cq c0 f0 V6 V2 VB CQ2 cp CQ
      refine (cut44 (S q) HQZ.out U3).mono ?_
      rintro e W4 ⟨⟨v2, rfl, hown⟩, hb2⟩
      obtain ⟨g2, c2, rfl, hg2, hg2w, hcell⟩ := strs_at hown (piec_pos _ _ _)
      have hU3 := B6_4.out.lt
      have B6_5 := Lib.hid (B6_4.out.below hb2 B6_4.out.lt)
      have B2_5 := Lib.hid (B2_4.out.below hb2 B2_4.out.lt)
      have H5 : Hid (Below w.heap.size w W4) := Lib.hid (H4.out.trans (hb2.mono H4.out.size))
      have hQ : (S q).data.toList = q := rfl
      rw [hQ] at hcell ⊢
      obtain ⟨P2, hP2⟩ : ∃ P, P = piec 44 [] q := ⟨_, rfl⟩
      have hp2 := fun x => piec_size 44 q [] x
      rw [← hP2] at hcell hp2 ⊢
      have HP2 := Lib.hid hP2
      have HPZ2 := Lib.hid hp2
      have HCELL2 := Lib.hid hcell
      clear hown hb2 hP2 hp2 hcell hQ
      by_cases hn2 : P2.length = 3
      case neg =>
        have t2 : ((P2.length : Int) == 3) = false := by simp; omega
        have k0' : W4.cell? ⟨N6, 0, none⟩ = some (.int .i64 xa) := B6_5.out.cell 0
        have z0 : W4.cell? ⟨w.heap.size, 0, none⟩ = some (.int .i64 0) := B2_5.out.cell 0
        have f0 := B2_5.out.frozen 0
        have k1' : W4.cell? ⟨N6, 1, none⟩ = some (.int .i64 xb) := B6_5.out.cell 1
        have z1 : W4.cell? ⟨w.heap.size, 1, none⟩ = some (.int .i64 0) := B2_5.out.cell 1
        have f1 := B2_5.out.frozen 1
        have k2' : W4.cell? ⟨N6, 2, none⟩ = some (.int .i64 0) := B6_5.out.cell 2
        have z2 : W4.cell? ⟨w.heap.size, 2, none⟩ = some (.int .i64 0) := B2_5.out.cell 2
        have f2 := B2_5.out.frozen 2
        have k3' : W4.cell? ⟨N6, 3, none⟩ = some (.int .i64 0) := B6_5.out.cell 3
        have z3 : W4.cell? ⟨w.heap.size, 3, none⟩ = some (.int .i64 0) := B2_5.out.cell 3
        have f3 := B2_5.out.frozen 3
        have k4' : W4.cell? ⟨N6, 4, none⟩ = some (.int .i64 0) := B6_5.out.cell 4
        have z4 : W4.cell? ⟨w.heap.size, 4, none⟩ = some (.int .i64 0) := B2_5.out.cell 4
        have f4 := B2_5.out.frozen 4
        have hA : At W4 w.heap.size 0 ⟨0, 0, 0, 0, 0⟩ := ⟨z0, z1, z2, z3, z4⟩
        have HAT := Lib.hid hA
        clear hA
        go_wp2_with fail
        have hs' := Go.Proofs.YtleeglgjaifejaaGreatDoor.find.store5 HAT.out ⟨xa, xb, 0, 0, 0⟩
        have hl' := Go.Proofs.YtleeglgjaifejaaGreatDoor.find.below5 (b := w.heap.size) H5.out (Nat.le_refl _) ⟨xa, xb, 0, 0, 0⟩
        simp only at hs' hl'
        generalize (((((W4.setCell _ _).setCell _ _).setCell _ _).setCell _ _).setCell _ _) = Wf at hs' hl' ⊢
        obtain ⟨s0, s1, s2, s3, s4⟩ := atFlat hs'
        simp only at s0 s1 s2 s3 s4
        exact bodyPost_ret (v := .agg #[.int .i64 xa, .int .i64 xb, .int .i64 0, .int .i64 0, .int .i64 0]) (by simp [results, Tryz.results42, go_sem, s0, s1, s2, s3, s4]) rfl ⟨⟨xa, xb, 0, 0, 0⟩, rfl, (fun y hy he => by have h := (HHIT.out y hy he).2.1; rw [← HP1.out, HPQ.out] at h; have h3 := (HHIT.out y hy he).2.2; have eq : q = rest y := (by injection h with _ h; injection h); rw [← eq, ← HP2.out] at h3; exact absurd (by rw [h3]; rfl) hn2), hl'⟩
      obtain ⟨a, b, c, habc⟩ : ∃ a b c, P2 = [a, b, c] := by
        match P2, hn2 with
        | [a, b, c], _ => exact ⟨a, b, c, rfl⟩
      have t2 : ((P2.length : Int) == 3) = true := by rw [habc]; rfl
      have ca : W4.cell? ⟨g2, 0, none⟩ = some (.string (S a)) := HCELL2.out 0 a (by rw [habc]; rfl)
      have za : (S a).size ≤ 1048576 := S_size_le (by have := HPZ2.out a (by rw [habc]; simp); rw [List.length_nil, Nat.zero_add] at this; exact this) HQZ.out
      have cb : W4.cell? ⟨g2, 1, none⟩ = some (.string (S b)) := HCELL2.out 1 b (by rw [habc]; rfl)
      have zb : (S b).size ≤ 1048576 := S_size_le (by have := HPZ2.out b (by rw [habc]; simp); rw [List.length_nil, Nat.zero_add] at this; exact this) HQZ.out
      have cc : W4.cell? ⟨g2, 2, none⟩ = some (.string (S c)) := HCELL2.out 2 c (by rw [habc]; rfl)
      have zc : (S c).size ≤ 1048576 := S_size_le (by have := HPZ2.out c (by rw [habc]; simp); rw [List.length_nil, Nat.zero_add] at this; exact this) HQZ.out
      have HABC := Lib.hid habc
      have hl2 : P2.length = 3 := hn2
      have HL2 := Lib.hid hl2
      have j0' : (0 : Int) < (P2.length : Int) := by omega
      have j1' : (1 : Int) < (P2.length : Int) := by omega
      have j2' : (2 : Int) < (P2.length : Int) := by omega
      obtain ⟨xc, yc, hxc, CC0⟩ := spec_int (S a) za
      obtain ⟨xd, yd, hxd, CD0⟩ := spec_int (S b) zb
      obtain ⟨xe, ye, hxe, CE0⟩ := spec_mk (S c) zc
      have CC := Lib.hid CC0
      have CD := Lib.hid CD0
      have CE := Lib.hid CE0
      have HXC := Lib.hid hxc
      have HXD := Lib.hid hxd
      have HXE := Lib.hid hxe
      have CB_ := Lib.hid cb
      have CC_ := Lib.hid cc
      clear CC0 CD0 CE0 hxc hxd hxe za zb zc habc cb cc hn2 hl2
      go_wp2_with fail
      refine (CC.out W4).mono ?_
      rintro e W5 ⟨rfl, hbk⟩
      have b6 := B6_5.out.below hbk B6_5.out.lt
      have b2 := B2_5.out.below hbk B2_5.out.lt
      have hbn : Below w.heap.size w W5 := H5.out.trans (hbk.mono H5.out.size)
      have cb : (W5.setCell ⟨N6, 2, none⟩ (.int .i64 xc)).cell? ⟨g2, 1, none⟩ = some (.string (S b)) := far_cell (p := ⟨N6, 2, none⟩) ((hbk.cell (p := ⟨g2, 1, none⟩) hg2w).trans CB_.out) (by show N6 ≠ g2; omega)
      have cc : (W5.setCell ⟨N6, 2, none⟩ (.int .i64 xc)).cell? ⟨g2, 2, none⟩ = some (.string (S c)) := far_cell (p := ⟨N6, 2, none⟩) ((hbk.cell (p := ⟨g2, 2, none⟩) hg2w).trans CC_.out) (by show N6 ≠ g2; omega)
      have c0 : W5.cell? ⟨N6, 2, none⟩ = some (.int .i64 0) := b6.cell 2
      have f0 := b6.frozen 2
      have v6 : Blk (W5.setCell ⟨N6, 2, none⟩ (.int .i64 xc)) N6 30 #[.int .i64 xa, .int .i64 xb, .int .i64 xc, .int .i64 0, .int .i64 0] := b6.set_ 2 (.int .i64 xc)
      have v2 : Blk (W5.setCell ⟨N6, 2, none⟩ (.int .i64 xc)) w.heap.size 30 #[.int .i64 0, .int .i64 0, .int .i64 0, .int .i64 0, .int .i64 0] := b2.far (p := ⟨N6, 2, none⟩) (by show w.heap.size ≠ N6; omega) _
      have vb : Below w.heap.size w (W5.setCell ⟨N6, 2, none⟩ (.int .i64 xc)) := hbn.setCell (p := ⟨N6, 2, none⟩) (by show w.heap.size ≤ N6; omega) _
      have V6 := Lib.hid v6
      have V2 := Lib.hid v2
      have VB := Lib.hid vb
      have C3 := Lib.hid cc
      have hz5 : W4.heap.size ≤ W5.heap.size := hbk.size
      clear b6 b2 hbn hbk v6 v2 vb cc
      go_wp2_with fail
      have v6 := V6.out
      have v2 := V2.out
      have vb := VB.out
      have cc := C3.out
      have hz6 : W4.heap.size ≤ (W5.setCell ⟨N6, 2, none⟩ (.int .i64 xc)).heap.size := by simpa [World.setCell] using hz5
      generalize W5.setCell ⟨N6, 2, none⟩ (.int .i64 xc) = U5 at v6 v2 vb cc cb hz6 ⊢
      have B6_6 := Lib.hid v6
      have B2_6 := Lib.hid v2
      have H6 := Lib.hid vb
      have CC2 := Lib.hid cc
      clear v6 v2 vb cc cb c0 f0 V6 V2 VB C3
      refine (CD.out U5).mono ?_
      rintro e W6 ⟨rfl, hbk⟩
      have b6 := B6_6.out.below hbk B6_6.out.lt
      have b2 := B2_6.out.below hbk B2_6.out.lt
      have hbn : Below w.heap.size w W6 := H6.out.trans (hbk.mono H6.out.size)
      have cc : (W6.setCell ⟨N6, 3, none⟩ (.int .i64 xd)).cell? ⟨g2, 2, none⟩ = some (.string (S c)) := far_cell (p := ⟨N6, 3, none⟩) ((hbk.cell (p := ⟨g2, 2, none⟩) (Nat.lt_of_lt_of_le hg2w hz6)).trans CC2.out) (by show N6 ≠ g2; omega)
      have c0 : W6.cell? ⟨N6, 3, none⟩ = some (.int .i64 0) := b6.cell 3
      have f0 := b6.frozen 3
      have v6 : Blk (W6.setCell ⟨N6, 3, none⟩ (.int .i64 xd)) N6 30 #[.int .i64 xa, .int .i64 xb, .int .i64 xc, .int .i64 xd, .int .i64 0] := b6.set_ 3 (.int .i64 xd)
      have v2 : Blk (W6.setCell ⟨N6, 3, none⟩ (.int .i64 xd)) w.heap.size 30 #[.int .i64 0, .int .i64 0, .int .i64 0, .int .i64 0, .int .i64 0] := b2.far (p := ⟨N6, 3, none⟩) (by show w.heap.size ≠ N6; omega) _
      have vb : Below w.heap.size w (W6.setCell ⟨N6, 3, none⟩ (.int .i64 xd)) := hbn.setCell (p := ⟨N6, 3, none⟩) (by show w.heap.size ≤ N6; omega) _
      have V6 := Lib.hid v6
      have V2 := Lib.hid v2
      have VB := Lib.hid vb
      clear b6 b2 hbn hbk v6 v2 vb
      go_wp2_with fail
      have v6 := V6.out
      have v2 := V2.out
      have vb := VB.out
      generalize W6.setCell ⟨N6, 3, none⟩ (.int .i64 xd) = U6 at v6 v2 vb cc ⊢
      have B6_7 := Lib.hid v6
      have B2_7 := Lib.hid v2
      have H7 := Lib.hid vb
      clear v6 v2 vb cc c0 f0 V6 V2 VB
      refine (CE.out U6).mono ?_
      rintro e W7 ⟨rfl, hbk⟩
      have b6 := B6_7.out.below hbk B6_7.out.lt
      have b2 := B2_7.out.below hbk B2_7.out.lt
      have hbn : Below w.heap.size w W7 := H7.out.trans (hbk.mono H7.out.size)
      have c0 : W7.cell? ⟨N6, 4, none⟩ = some (.int .i64 0) := b6.cell 4
      have f0 := b6.frozen 4
      have v6 : Blk (W7.setCell ⟨N6, 4, none⟩ (.int .i64 xe)) N6 30 #[.int .i64 xa, .int .i64 xb, .int .i64 xc, .int .i64 xd, .int .i64 xe] := b6.set_ 4 (.int .i64 xe)
      have v2 : Blk (W7.setCell ⟨N6, 4, none⟩ (.int .i64 xe)) w.heap.size 30 #[.int .i64 0, .int .i64 0, .int .i64 0, .int .i64 0, .int .i64 0] := b2.far (p := ⟨N6, 4, none⟩) (by show w.heap.size ≠ N6; omega) _
      have vb : Below w.heap.size w (W7.setCell ⟨N6, 4, none⟩ (.int .i64 xe)) := hbn.setCell (p := ⟨N6, 4, none⟩) (by show w.heap.size ≤ N6; omega) _
      have k0' : (W7.setCell ⟨N6, 4, none⟩ (.int .i64 xe)).cell? ⟨N6, 0, none⟩ = some (.int .i64 xa) := v6.cell 0
      have z0 : (W7.setCell ⟨N6, 4, none⟩ (.int .i64 xe)).cell? ⟨w.heap.size, 0, none⟩ = some (.int .i64 0) := v2.cell 0
      have f0' := v2.frozen 0
      have k1' : (W7.setCell ⟨N6, 4, none⟩ (.int .i64 xe)).cell? ⟨N6, 1, none⟩ = some (.int .i64 xb) := v6.cell 1
      have z1 : (W7.setCell ⟨N6, 4, none⟩ (.int .i64 xe)).cell? ⟨w.heap.size, 1, none⟩ = some (.int .i64 0) := v2.cell 1
      have f1' := v2.frozen 1
      have k2' : (W7.setCell ⟨N6, 4, none⟩ (.int .i64 xe)).cell? ⟨N6, 2, none⟩ = some (.int .i64 xc) := v6.cell 2
      have z2 : (W7.setCell ⟨N6, 4, none⟩ (.int .i64 xe)).cell? ⟨w.heap.size, 2, none⟩ = some (.int .i64 0) := v2.cell 2
      have f2' := v2.frozen 2
      have k3' : (W7.setCell ⟨N6, 4, none⟩ (.int .i64 xe)).cell? ⟨N6, 3, none⟩ = some (.int .i64 xd) := v6.cell 3
      have z3 : (W7.setCell ⟨N6, 4, none⟩ (.int .i64 xe)).cell? ⟨w.heap.size, 3, none⟩ = some (.int .i64 0) := v2.cell 3
      have f3' := v2.frozen 3
      have k4' : (W7.setCell ⟨N6, 4, none⟩ (.int .i64 xe)).cell? ⟨N6, 4, none⟩ = some (.int .i64 xe) := v6.cell 4
      have z4 : (W7.setCell ⟨N6, 4, none⟩ (.int .i64 xe)).cell? ⟨w.heap.size, 4, none⟩ = some (.int .i64 0) := v2.cell 4
      have f4' := v2.frozen 4
      have hA : At (W7.setCell ⟨N6, 4, none⟩ (.int .i64 xe)) w.heap.size 0 ⟨0, 0, 0, 0, 0⟩ := ⟨z0, z1, z2, z3, z4⟩
      have HAT := Lib.hid hA
      have VB := Lib.hid vb
      clear b6 b2 hbn hbk v6 v2 vb hA
      go_wp2_with fail
      have hs' := Go.Proofs.YtleeglgjaifejaaGreatDoor.find.store5 HAT.out ⟨xa, xb, xc, xd, xe⟩
      have hl' := Go.Proofs.YtleeglgjaifejaaGreatDoor.find.below5 (b := w.heap.size) VB.out (Nat.le_refl _) ⟨xa, xb, xc, xd, xe⟩
      simp only at hs' hl'
      generalize ((((((W7.setCell _ _).setCell _ _).setCell _ _).setCell _ _).setCell _ _).setCell _ _) = Wf at hs' hl' ⊢
      obtain ⟨s0, s1, s2, s3, s4⟩ := atFlat hs'
      simp only at s0 s1 s2 s3 s4
      refine bodyPost_ret (v := .agg #[.int .i64 xa, .int .i64 xb, .int .i64 xc, .int .i64 xd, .int .i64 xe]) (by simp [results, Tryz.results42, go_sem, s0, s1, s2, s3, s4]) rfl ⟨⟨xa, xb, xc, xd, xe⟩, rfl, fun y hy he => ?_, hl'⟩
      obtain ⟨h1, h2, h3⟩ := HHIT.out y hy he
      rw [← HP1.out, HPQ.out] at h2
      have ep : p = val y.b := by injection h2
      have eq : q = rest y := by injection h2 with _ h; injection h
      rw [← eq, ← HP2.out, HABC.out] at h3
      have ea : a = itoa y.c := by injection h3
      have eb : b = itoa y.d := by injection h3 with _ h; injection h
      have ec : c = mk y.e := by injection h3 with _ h; injection h with _ h; injection h
      obtain ⟨ra, rb, rc, rd, re⟩ := num_range hy
      have e1 := (HA.out y.a (by rw [h1]; exact num_S _ (by omega) (by omega))).1
      have e2 := HXB.out y.b (by omega) (by omega) (by rw [ep, vS_val])
      have e3 := (HXC.out y.c (by rw [ea]; exact num_S _ (by omega) (by omega))).1
      have e4 := (HXD.out y.d (by rw [eb]; exact num_S _ (by omega) (by omega))).1
      have e5 := HXE.out y.e (by omega) (by omega) (by rw [ec, ← FM_mk])
      rw [e1, e2, e3, e4, e5]
end Go.Proofs.YtleeglgjaifejaaGreatDoor.sver
