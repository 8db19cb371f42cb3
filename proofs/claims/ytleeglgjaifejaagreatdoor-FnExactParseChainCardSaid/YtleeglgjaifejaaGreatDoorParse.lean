/- What the program's ParseChain answers: the chain whose text it is, if there is one with at most 100 versions, and nothing otherwise; nothing that was there is written. -/
import Derived.Test.YtleeglgjaifejaaGreatDoorRead
import Derived.Test.YtleeglgjaifejaaGreatDoorFlat
import Derived.Test.YtleeglgjaifejaaGreatDoorCount
import Derived.Test.YtleeglgjaifejaaGreatDoorSplit
import Derived.WalkKit
import Derived.ProofKit
import Derived.Below
import Derived.Lib.Hide
import Derived.LoopTactic
import Derived.Outline
import Derived.IntWalk
namespace Go.Proofs.YtleeglgjaifejaaGreatDoor.parse
open Go.ChangeShapes Go.WideShapes Go.ChangeAt Go.RowKit
open Go.Lib (splitB countB countByte)
open Go.Proofs.YtleeglgjaifejaaGreatDoor.vers Go.Proofs.YtleeglgjaifejaaGreatDoor.sl Go.Proofs.YtleeglgjaifejaaGreatDoor.ch Go.Proofs.YtleeglgjaifejaaGreatDoor.fmtn Go.Proofs.YtleeglgjaifejaaGreatDoor.tabs Go.Proofs.YtleeglgjaifejaaGreatDoor.text Go.Proofs.YtleeglgjaifejaaGreatDoor.pieces
open Go.Proofs.YtleeglgjaifejaaGreatDoor.read (Env Blk read_version)
open Go.Proofs.YtleeglgjaifejaaGreatDoor.text (own_below)
open Go.Proofs.YtleeglgjaifejaaGreatDoor.flat
set_option linter.unusedVariables false
set_option linter.unusedSimpArgs false
/-- l is the chain, of at most 100 versions, whose text is s -/
def Good (s : ByteArray) (l : List Ver) : Prop := chB l = true ∧ l.length ≤ 100 ∧ chT l = s
/-- the first k pieces have been read -/
def Got (ps : List ByteArray) (l : List Ver) : Prop := ∀ (j : Nat) (x y : Ver) (p : ByteArray), l[j]? = some x → ps[j]? = some p → okV y = true → p = vt y → x = y
theorem got_nil (ps : List ByteArray) : Got ps [] := fun j x y p h => by simp at h
theorem got_snoc {ps : List ByteArray} {l : List Ver} {x : Ver} {p : ByteArray} (h : Got ps l) (hp : ps[l.length]? = some p) (hx : ∀ y, okV y = true → p = vt y → x = y) : Got ps (l ++ [x]) := by
  intro j z y q hz hq hy he
  by_cases hj : j < l.length
  · rw [List.getElem?_append_left hj] at hz
    exact h j z y q hz hq hy he
  · by_cases hj2 : j = l.length
    · subst hj2
      rw [List.getElem?_append_right (Nat.le_refl _), Nat.sub_self] at hz
      simp at hz
      subst hz
      rw [hp] at hq
      cases hq
      exact hx y hy he
    · rw [List.getElem?_eq_none (by simp; omega)] at hz
      cases hz
def Col (ps : List ByteArray) (base : Nat) (v : Value) (k : Nat) (wr : World) : Prop := ∃ l : List Ver, l.length = k ∧ Got ps l ∧ wr.ownsRow base 30 5 v k (flat l)
/-! a good text, in pieces -/
theorem good_text {s : ByteArray} {l : List Ver} (h : Good s l) : s = S (Go.Lib.join (l.map vl) [32]) ∧ (l.map vl) ≠ [] ∧ (∀ t ∈ l.map vl, (32 : UInt8) ∉ t) := by
  have hp := ch_pos h.1
  refine ⟨?_, ?_, ?_⟩
  · rw [← h.2.2]
    unfold chT
    rw [if_pos h.1]
    unfold cat
    rw [List.take_of_length_le (Nat.le_refl _)]
  · intro e
    have := congrArg List.length e
    simp only [List.length_map, List.length_nil] at this
    omega
  · intro t ht
    obtain ⟨x, _, rfl⟩ := List.mem_map.1 ht
    exact vl_no x
theorem good_pieces {s : ByteArray} {l : List Ver} (h : Good s l) : splitB ⟨#[32]⟩ 0 (countB s ⟨#[32]⟩) s = l.map vt := by
  obtain ⟨e, hne, hno⟩ := good_text h
  rw [e, splitB_join hne hno, List.map_map]
  rfl
theorem good_piec {s : ByteArray} {l : List Ver} (h : Good s l) : piec 32 [] s.data.toList = l.map vl := by
  obtain ⟨e, hne, hno⟩ := good_text h
  rw [e]
  exact piec_join 32 _ hne hno
theorem good_count {s : ByteArray} {l : List Ver} (h : Good s l) : countByte s.data.toList 32 + 1 = l.length := by
  obtain ⟨e, hne, hno⟩ := good_text h
  have := countB_join 32 (l.map vl) hne hno
  rw [List.length_map] at this
  rw [e]
  exact this
theorem good_ok {s : ByteArray} {l : List Ver} (h : Good s l) : ∀ (k : Nat) (x : Ver), l[k]? = some x → okV x = true := (ch_of h.1).1
/-- what has been read of a good text is its chain -/
theorem got_all {s : ByteArray} {l l' : List Ver} (h : Good s l) (hg : Got (l.map vt) l') (hl : l'.length = l.length) : l' = l := by
  apply List.ext_getElem? 
  intro k
  by_cases hk : k < l.length
  · have h1 : l[k]? = some l[k] := List.getElem?_eq_getElem hk
    have h2 : l'[k]? = some (l'[k]'(by omega)) := List.getElem?_eq_getElem (by omega)
    rw [h1, h2]
    congr 1
    exact hg k _ _ (vt l[k]) h2 (by rw [List.getElem?_map, h1]; rfl) (good_ok h k _ h1) rfl
  · rw [List.getElem?_eq_none (by omega), List.getElem?_eq_none (by omega)]
theorem vt_inj {x y : Ver} (hx : okV x = true) (hy : okV y = true) (h : vt x = vt y) : x = y := by
  have hs : (vt x).size ≤ 1048576 := by have := vt_size (ok_vP hx); omega
  obtain ⟨z, hz, _⟩ := read_version (vt x) hs
  rw [← hz x hx rfl, hz y hy h]
theorem good_one {s : ByteArray} {l l' : List Ver} (h : Good s l) (h' : Good s l') : l' = l := by
  have hl : l'.length = l.length := by have := good_count h; have := good_count h'; omega
  refine got_all h (fun j x y p hx hp hy he => ?_) hl
  have e : l.map vt = l'.map vt := by rw [← good_pieces h, good_pieces h']
  rw [e, List.getElem?_map, hx] at hp
  simp at hp
  subst hp
  exact vt_inj (good_ok h' j x hx) hy he
theorem own_le {w : World} {base base' size n : Nat} {e : TypeId} {v : Value} {xs : List Value} (h : w.ownsRow base e size v n xs) (hb : base' ≤ base) : w.ownsRow base' e size v n xs :=
  ⟨h.1, h.2.elim Or.inl (fun ⟨g, cap, cur, hv, hg, r⟩ => Or.inr ⟨g, cap, cur, hv, Nat.le_trans hb hg, r⟩)⟩
def PPost (s : ByteArray) (w : World) (e : Ending) (w' : World) : Prop :=
  (∃ l v, Good s l ∧ e = .returned (.tuple #[v, .bool true]) ∧ w'.ownsRow w.heap.size 30 5 v l.length (flat l) ∧ Below w.heap.size w w') ∨
  ((∀ l, ¬ Good s l) ∧ e = .returned (.tuple #[.slice none 0 0, .bool false]) ∧ Below w.heap.size w w')
theorem str_ne {a b : ByteArray} (h : a ≠ b) : (a.toList == b.toList) = false := by
  have : ¬ a.toList = b.toList := fun e => h (by
    have e2 : a.data.toList = b.data.toList := by rw [← ByteArray.toList_eq, ← ByteArray.toList_eq]; exact e
    rw [← S_data a, e2, S_data b])
  simpa using this
set_option maxRecDepth 100000 in
set_option maxHeartbeats 1600000 in
theorem impl_parse (s : ByteArray) (hs : s.size ≤ 1048576) (w : World) (hE : Env w) :
    Calls Tryz.prog 15 #[.string s] w (PPost s w) := by
  have HE := Lib.hid hE
  obtain ⟨m, hm⟩ := hE.2
  have HM := Lib.hid hm
  clear hE hm
  by_cases hcnt : 100 ≤ countByte s.data.toList 32
  · have hci : (100 : Int) ≤ ((countByte s.data.toList 32 : Nat) : Int) := by omega
    have t : decide ((100 : Int) ≤ ((countByte s.data.toList 32 : Nat) : Int)) = true := decide_eq_true hci
    go_enter Tryz.func15, Tryz.ntmps15
    go_wp2_with fail
    refine (Tryz.strings_Count_one s 32 w).mono ?_
    rintro e W ⟨rfl, rfl⟩
    go_wp2_with fail
    go_ret2
    exact .inr ⟨fun l h => by have := good_count h; have := h.2.1; omega, rfl, Below.refl _ _⟩
  · have hci : ((countByte s.data.toList 32 : Nat) : Int) < 100 := by omega
    have t : decide ((100 : Int) ≤ ((countByte s.data.toList 32 : Nat) : Int)) = false := decide_eq_false (by omega)
    obtain ⟨ps, hps⟩ : ∃ ps, ps = splitB ⟨#[32]⟩ 0 (countB s ⟨#[32]⟩) s := ⟨_, rfl⟩
    have hpl : ps.length = countB s ⟨#[32]⟩ + 1 := by rw [hps]; exact Go.Lib.splitB_all _ (by decide) 0 _ s rfl
    have hpz : ∀ (k : Nat) (p : ByteArray), ps[k]? = some p → p.size ≤ 1048576 := by
      intro k p hp
      have := splitB_size ⟨#[32]⟩ _ s p (by rw [← hps]; exact List.mem_of_getElem? hp)
      omega
    have hcl := Go.Lib.countB_le ⟨#[32]⟩ (by decide) s.size s (Nat.le_refl _)
    have HPS := Lib.hid hps
    have HPZ := Lib.hid hpz
    have h100 : countB s ⟨#[32]⟩ < 100 := by
      have h1 := Go.Lib.count_one 32 s.data.toList
      have h2 : countB s ⟨#[32]⟩ = Go.Lib.count s.data.toList [32] := rfl
      have h3 : countByte s.data.toList 32 = s.data.toList.count 32 := rfl
      omega
    generalize hn : countB s ⟨#[32]⟩ = n0 at hpl hcl h100
    have HN100 := Lib.hid h100
    have HN0 := Lib.hid hn
    have HPL := Lib.hid hpl
    have hHS : s.size < 4294967281 := by omega
    clear hps hpz hn hpl
    obtain ⟨i0, hi, hz0, hz1, hz2⟩ := info_parts ver_info
    have HI := Lib.hid hi
    have HZ0 := Lib.hid hz0
    have HZ1 := Lib.hid hz1
    have HZ2 := Lib.hid hz2
    clear hi hz0 hz1 hz2
    go_enter Tryz.func15, Tryz.ntmps15
    go_wp2_with fail
    refine (Tryz.strings_Count_one s 32 w).mono ?_
    rintro e W ⟨rfl, rfl⟩
    go_wp2_with fail
    refine (Tryz.strings_Split s ⟨#[32]⟩ m W hHS HM.out (by decide)).mono ?_
    rintro e W0 ⟨rfl, hW0⟩
    rw [← HPS.out] at hW0
    rw [HN0.out]
    have hblk : Blk W0 W.heap.size 9 (ps.map Value.string).toArray := by rw [hW0]; exact Go.Proofs.YtleeglgjaifejaaGreatDoor.read.Blk.new _ _ _
    have hb0 : Below W.heap.size W W0 := by rw [hW0]; exact new1 _ _
    have HBLK := Lib.hid hblk
    have HB0 := Lib.hid hb0
    clear hW0 hblk hb0 t
    go_wp2_with fail
    go_loopw [4, 13] (fun v i wr => ∃ k : Nat, k ≤ n0 + 1 ∧ i = .int .i64 k ∧ Col ps (W.heap.size + 1) v k wr ∧ Below W.heap.size W wr ∧ Blk wr W.heap.size 9 (ps.map Value.string).toArray) (fun _ i _ => n0 + 1 - (intOf i).toNat)
    case atStart => exact ⟨0, by omega, rfl, ⟨[], rfl, got_nil _, ⟨rfl, .inl ⟨rfl, rfl⟩⟩⟩, HB0.out, HBLK.out⟩
    case round =>
      obtain ⟨k, hk, rfl, hcol, hbr, hbl⟩ := hrel
      by_cases hlt : k < n0 + 1
      · have hpk : ps[k]? = some (ps[k]'(by have := HPL.out; omega)) := List.getElem?_eq_getElem _
        generalize (ps[k]'(by have := HPL.out; omega)) = p at hpk
        have hpc : wr.cell? ⟨W.heap.size, k, none⟩ = some (.string p) := by
          rw [hbl.cell k, List.getElem?_toArray, List.getElem?_map, hpk]
          rfl
        obtain ⟨x, hx, hC⟩ := read_version p (HPZ.out k p hpk)
        have HX := Lib.hid hx
        have HC := Lib.hid hC
        have HCOL := Lib.hid hcol
        have HBR := Lib.hid hbr
        have HBL := Lib.hid hbl
        have HPK := Lib.hid hpk
        have hkI : (k : Int) < (n0 : Int) + 1 := by omega
        have hkn : (0 : Int) ≤ (k : Int) := by omega
        clear hcol hbr hbl hpk hx hC
        go_wp2_with fail
        refine (HC.out wr (HE.out.below HBR.out)).mono ?_
        rintro e W1 ⟨rfl, hb1⟩
        obtain ⟨l, hl, hgot, hown⟩ := HCOL.out
        have hown1 := own_below hown hb1
        have HOWN1 := Lib.hid hown1
        have HB1 : Hid (Below W.heap.size W W1) := Lib.hid (HBR.out.trans (hb1.mono HBR.out.size))
        have HBL1 : Hid (Blk W1 W.heap.size 9 (ps.map Value.string).toArray) := Lib.hid (HBL.out.below hb1 HBL.out.lt)
        have HL := Lib.hid hl
        have HGOT := Lib.hid hgot
        have hmax : k + 1 ≤ maxLen := by unfold maxLen; omega
        have hbyt : (k + 1) * 40 ≤ 140737488355328 := by omega
        have hws : W.heap.size ≤ W1.heap.size := HB1.out.size
        have hwl := HBL1.out.lt
        have hbase : ∀ o, W.heap.size + 1 ≤ (W1.alloc o).heap.size := fun o => by simp; omega
        clear hown hown1 hb1 hl hgot
        go_wp2_with (at_builtin; refine wpList_append_own _ rfl _ _ 24 rfl (W.heap.size + 1) 30 i0 (.agg #[.int .i64 0, .int .i64 0, .int .i64 0, .int .i64 0, .int .i64 0]) 5 40 Tryz.underlying24 HI.out HZ0.out HZ1.out HZ2.out rfl (by decide) _ _ _ rfl (HOWN1.out.alloc _) ⟨_, 0, none⟩ 1 1 [.int .i64 x.a, .int .i64 x.b, .int .i64 x.c, .int .i64 x.d, .int .i64 x.e] rfl rfl (cells5 _ x _) (one5 x) hmax hbyt (hbase _) ?_)
        intro v' w1 hown' hgrow _
        have hrow := fun q hq => (HOWN1.out.lt q hq).1
        have hb4 : Below W.heap.size W w1 := (HB1.out.alloc HB1.out.size _).grown hgrow (by have := hbase (.cells #[] 0); simp at this ⊢; omega) (fun q hq => by have := hrow q hq; omega)
        have hbl4 : Blk w1 W.heap.size 9 (ps.map Value.string).toArray := (HBL1.out.alloc _).grown hgrow (fun e => by have := hrow _ e.symm; omega)
        have hcol4 : Col ps (W.heap.size + 1) v' (k + 1) w1 := ⟨l ++ [x], by simp [HL.out], got_snoc HGOT.out (by rw [HL.out]; exact HPK.out) HX.out, by rw [flat_snoc]; exact hown'⟩
        have HB4 := Lib.hid hb4
        have HBL4 := Lib.hid hbl4
        have HCOL4 := Lib.hid hcol4
        clear hown' hgrow hrow hb4 hbl4 hcol4 hmax hbyt hbase hwl
        go_wp2_with fail
        go_roundw
        case rel => exact ⟨k + 1, by omega, by go_num, HCOL4.out, HB4.out, HBL4.out⟩
        case measure => simp [intOf]; omega
      · have e : k = n0 + 1 := by omega
        obtain ⟨l, hl, hgot, hown⟩ := hcol
        obtain ⟨A, c, rfl, hvs⟩ := own_vs hown hl
        have HL := Lib.hid hl
        have HGOT := Lib.hid hgot
        have HOWN := Lib.hid hown
        have HVS := Lib.hid hvs
        have HBR := Lib.hid hbr
        have HK := Lib.hid e
        have hkI : ¬ ((k : Int) < (n0 : Int) + 1) := by omega
        clear hl hgot hown hvs hbr hbl e
        -- what was read: a good text's own chain
        have hgl : ∀ l0, Good s l0 → l = l0 := fun l0 h0 => by
          have e0 := good_pieces h0
          rw [← HPS.out] at e0
          refine got_all h0 (by rw [← e0]; exact HGOT.out) ?_
          have e1 := congrArg List.length e0
          rw [List.length_map] at e1
          rw [HL.out, HK.out, ← HPL.out, e1]
        have HGL := Lib.hid hgl
        clear hgl
        rcases hcb : chB l with _ | _
        · have HCB := Lib.hid hcb
          clear hcb
          go_wp2_with fail
          refine (impl_chain (by omega) HVS.out (Nat.le_refl _)).mono ?_
          rintro e W2 ⟨rfl, hb2⟩
          rw [HCB.out]
          have HB2 : Hid (Below W.heap.size W W2) := Lib.hid (HBR.out.trans (hb2.mono HBR.out.size))
          clear hb2
          go_wp2_with fail
          go_ret2
          exact .inr ⟨(fun l0 h0 => by have e := HGL.out l0 h0; subst e; have := h0.1; rw [HCB.out] at this; cases this), rfl, HB2.out⟩
        · have HCB := Lib.hid hcb
          clear hcb
          have hsm : k ≤ 1048576 := by have := HK.out; have := HN100.out; omega
          go_wp2_with fail
          refine (impl_chain (by omega) HVS.out (Nat.le_refl _)).mono ?_
          rintro e W2 ⟨rfl, hb2⟩
          rw [HCB.out]
          have HB2 : Hid (Below W.heap.size W W2) := Lib.hid (HBR.out.trans (hb2.mono HBR.out.size))
          have HVS2 := Lib.hid ((HVS.out.below hb2).more hb2.size)
          have HOWN2 := Lib.hid (own_below HOWN.out hb2)
          clear hb2
          go_wp2_with fail
          refine (impl_chain_text hsm HVS2.out (Nat.le_refl _) (HE.out.below HB2.out).1.1).mono ?_
          rintro e W3 ⟨rfl, hb3⟩
          have HB3 : Hid (Below W.heap.size W W3) := Lib.hid (HB2.out.trans (hb3.mono HB2.out.size))
          have HOWN3 := Lib.hid (own_below HOWN2.out hb3)
          clear hb3
          by_cases hq : chT l = s
          · have tq : ((chT l).toList == s.toList) = true := by rw [hq]; simp
            have HQ := Lib.hid hq
            clear hq
            go_wp2_with fail
            go_ret2
            have hgd : Good s l := by
              refine ⟨HCB.out, ?_, HQ.out⟩
              have hp := ch_pos HCB.out
              have e : s = S (Go.Lib.join (l.map vl) [32]) := by
                rw [← HQ.out]
                unfold chT
                rw [if_pos HCB.out]
                unfold cat
                rw [List.take_of_length_le (Nat.le_refl _)]
              have hne : l.map vl ≠ [] := fun e => by
                have := congrArg List.length e
                simp only [List.length_map, List.length_nil] at this
                omega
              have h1 := countB_join 32 (l.map vl) hne (fun t ht => by obtain ⟨x, _, rfl⟩ := List.mem_map.1 ht; exact vl_no x)
              have h2 : countByte s.data.toList 32 = (Go.Lib.join (l.map vl) [32]).count 32 := by rw [e]; rfl
              rw [List.length_map] at h1
              omega
            refine .inl ⟨l, _, hgd, rfl, ?_, HB3.out⟩
            rw [HL.out]
            exact own_le HOWN3.out (by omega)
          · have tq := str_ne hq
            have HQ := Lib.hid hq
            clear hq
            go_wp2_with fail
            go_ret2
            exact .inr ⟨fun l0 h0 => by have e := HGL.out l0 h0; subst e; exact HQ.out h0.2.2, rfl, HB3.out⟩
end Go.Proofs.YtleeglgjaifejaaGreatDoor.parse
