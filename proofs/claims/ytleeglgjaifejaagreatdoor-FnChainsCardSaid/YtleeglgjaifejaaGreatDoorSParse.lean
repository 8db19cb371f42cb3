/- What the model's ParseChain answers: the chain whose text it is, if there is one with at most 100 versions, and nothing otherwise; nothing that was there is written. -/
import Derived.Test.YtleeglgjaifejaaGreatDoorSVer
import Derived.WalkKit
import Derived.ProofKit
import Derived.Below
import Derived.Lib.Hide
import Derived.LoopTactic
import Derived.Outline
import Derived.IntWalk
namespace Go.Proofs.YtleeglgjaifejaaGreatDoor.sparse
open Go.ChangeShapes Go.WideShapes Go.ChangeAt Go.RowKit
open Go.Proofs.YtleeglgjaifejaaGreatDoor.vers Go.Proofs.YtleeglgjaifejaaGreatDoor.sl Go.Proofs.YtleeglgjaifejaaGreatDoor.ch Go.Proofs.YtleeglgjaifejaaGreatDoor.fmtn Go.Proofs.YtleeglgjaifejaaGreatDoor.tabs Go.Proofs.YtleeglgjaifejaaGreatDoor.text Go.Proofs.YtleeglgjaifejaaGreatDoor.pieces Go.Proofs.YtleeglgjaifejaaGreatDoor.parse Go.Proofs.YtleeglgjaifejaaGreatDoor.flat Go.Proofs.YtleeglgjaifejaaGreatDoor.sread Go.Proofs.YtleeglgjaifejaaGreatDoor.sver
open Go.Proofs.YtleeglgjaifejaaGreatDoor.read (Env Blk)
set_option linter.unusedVariables false
set_option linter.unusedSimpArgs false
def SPost (s : ByteArray) (w : World) (e : Ending) (w' : World) : Prop :=
  (∃ l v, parse.Good s l ∧ e = .returned (.tuple #[v, .bool true]) ∧ w'.ownsRow w.heap.size 30 5 v l.length (flat l) ∧ Below w.heap.size w w') ∨
  ((∀ l, ¬ parse.Good s l) ∧ (∃ A c, e = .returned (.tuple #[.slice A 0 c, .bool false])) ∧ Below w.heap.size w w')
theorem good_some {s : ByteArray} {l : List Ver} (h : parse.Good s l) : s ≠ ⟨#[]⟩ := by
  intro e
  obtain ⟨h1, h2, _⟩ := good_text h
  match l, h2 with
  | x :: r, _ =>
    rw [List.map_cons, Go.Lib.join_cons] at h1
    have h3 : ([] : List UInt8) = vl x ++ Go.Lib.joinTail [32] (r.map vl) := by
      have := congrArg (fun x : ByteArray => x.data.toList) h1
      rw [e] at this
      exact this
    have h4 := congrArg List.length h3
    rw [List.length_append, vl_is] at h4
    simp at h4
    omega
theorem strs_blk {w : World} {B n : Nat} {v : Value} {P : List (List UInt8)} (h : w.ownsRow B 9 1 v n (P.map strV)) (hn : 0 < n) :
    ∃ g cap cur, v = .slice (some ⟨g, 0, none⟩) n cap ∧ Blk w g 9 cur ∧ ∀ (j : Nat) (x : List UInt8), P[j]? = some x → cur[j]? = some (.string (S x)) := by
  rcases h.2 with ⟨_, h0⟩ | ⟨g, cap, cur, hv, hbg, hgg, _⟩
  · omega
  · subst hv
    refine ⟨g, cap, cur, rfl, hgg, fun j x hx => ?_⟩
    have := h.cells (g := g) rfl j (.string (S x)) (by rw [List.getElem?_map, hx]; rfl)
    have hb : Blk w g 9 cur := hgg
    rw [← hb.cell j, ← this]
    congr 1
    unfold Addr.add
    split <;> simp_all
theorem cells5' (w : World) (x : Ver) (o : Obj) (t : TypeId) : ∀ (j : Nat) (u : Value), ([.int .i64 x.a, .int .i64 x.b, .int .i64 x.c, .int .i64 x.d, .int .i64 x.e] : List Value)[j]? = some u →
    ((w.alloc o).alloc (.cells #[.int .i64 x.a, .int .i64 x.b, .int .i64 x.c, .int .i64 x.d, .int .i64 x.e] t)).cell? ((⟨w.heap.size + 1, 0, none⟩ : Addr).add j) = some u := by
  have h := cells5 (w.alloc o) x t
  simpa using h
theorem own_ne {w : World} {base n g : Nat} {v : Value} {xs : List Value} {cur : Array Value} (h : w.ownsRow base 30 5 v n xs) (hg : Blk w g 9 cur) : v.ownBlock ≠ some g := by
  rcases h.2 with ⟨rfl, _⟩ | ⟨g', cap, cu, rfl, _, hh, _⟩
  · simp [Value.ownBlock]
  · intro he
    have : g' = g := by simpa [Value.ownBlock] using he
    subst this
    unfold Blk at hg
    rw [hg] at hh
    simp at hh
set_option maxRecDepth 100000 in
set_option maxHeartbeats 3200000 in
theorem spec_parse (s : ByteArray) (hs : s.size ≤ 1048576) (w : World) : Calls Tryz.prog 21 #[.string s] w (SPost s w) := by
  obtain ⟨i0, hi, hz0, hz1, hz2⟩ := info_parts ver_info
  have HI := Lib.hid hi
  have HZ0 := Lib.hid hz0
  have HZ1 := Lib.hid hz1
  have HZ2 := Lib.hid hz2
  clear hi hz0 hz1 hz2
  go_enter Tryz.func21, Tryz.ntmps21
  go_wp2_with fail
  have ho := World.ownsRow_made (base := w.heap.size) (e := 30) (size := 5) w #[] 0 (Nat.le_refl _) (by unfold maxLen; omega) rfl
  have hb0 := new1 w (.cells #[] 30)
  obtain ⟨v0, hv0⟩ : ∃ v, v = Value.slice (some ⟨w.heap.size, 0, none⟩) 0 0 := ⟨_, rfl⟩
  rw [← hv0] at ho ⊢
  clear hv0
  generalize w.alloc (.cells #[] 30) = W0 at ho hb0 ⊢
  refine (cut32 s hs W0).mono ?_
  rintro e W1 ⟨⟨v1, rfl, hown⟩, hb1⟩
  obtain ⟨P, hP⟩ : ∃ P, P = piec 32 [] s.data.toList := ⟨_, rfl⟩
  have hp0 : 0 < (piec 32 [] s.data.toList).length := piec_pos _ _ _
  have hpl := piec_len 32 s.data.toList []
  have hpz := fun x => piec_size 32 s.data.toList [] x
  have hsl : s.data.toList.length = s.size := Array.length_toList
  rw [← hP] at hown hp0 hpl hpz
  obtain ⟨g, cap, cur, rfl, hblk, hcur⟩ := strs_blk hown hp0
  have ho1 := own_below ho hb1
  have hB1 := hb0.trans (hb1.mono hb0.size)
  have HP := Lib.hid hP
  have HPZ := Lib.hid hpz
  have HCUR := Lib.hid hcur
  have hPn : P.length ≤ 1048577 := by omega
  clear hP hpz hcur hown hb1 ho hb0 hpl
  generalize hn : P.length = n at hp0 hPn
  have HN := Lib.hid hn
  clear hn
  go_wp2_with fail
  go_loopw [4, 6] (fun v i wr => ∃ k : Nat, k ≤ n ∧ k ≤ 100 ∧ i = .int .i64 k ∧ Col (P.map S) w.heap.size v k wr ∧ Below w.heap.size w wr ∧ Blk wr g 9 cur) (fun _ i _ => n - (intOf i).toNat)
  case atStart => exact ⟨0, by omega, by omega, rfl, ⟨[], rfl, got_nil _, ho1⟩, hB1, hblk⟩
  case round =>
    obtain ⟨k, hk, hk100, rfl, hcol, hbr, hbl⟩ := hrel
    have HBR := Lib.hid hbr
    clear ho1 hB1 hblk
    by_cases hlt : k < n
    case neg =>
      have t : decide (k < n) = false := decide_eq_false hlt
      have hkn : k = n := by omega
      have HKN := Lib.hid (fun (m : Nat) (_ : n = m) (_ : m ≤ 100) => hkn)
      clear hkn
      obtain ⟨l, hl, hgot, hown⟩ := hcol
      obtain ⟨A, c, rfl, hvs⟩ := own_vs hown hl
      have HL := Lib.hid hl
      have HGOT := Lib.hid hgot
      have HOWN := Lib.hid hown
      have HVS := Lib.hid hvs
      clear hl hgot hown hvs hbr hbl
      have hgl : ∀ l0, parse.Good s l0 → l = l0 := fun l0 h0 => by
        have e0 := good_piec h0
        rw [← HP.out] at e0
        have e1 := congrArg List.length e0
        rw [List.length_map, HN.out] at e1
        refine got_all h0 (by rw [show l0.map vt = P.map S by rw [e0, List.map_map]; rfl]; exact HGOT.out) ?_
        rw [HL.out, HKN.out _ e1 h0.2.1, e1]
      have HGL := Lib.hid hgl
      clear hgl
      by_cases hse : s = ⟨#[]⟩
      · have te : (s.toList == []) = true := by rw [hse, ByteArray.toList_eq]; rfl
        have te2 : s.toList.isEmpty = true := by rw [hse, ByteArray.toList_eq]; rfl
        have HSE := Lib.hid hse
        clear hse
        go_wp2_with fail
        go_ret2
        exact .inr ⟨fun l0 h0 => good_some h0 HSE.out, ⟨_, _, rfl⟩, HBR.out.alloc HBR.out.size _⟩
      · have te0 : s.toList ≠ [] := fun e => hse (by
          have e2 : s.data.toList = [] := by rw [← ByteArray.toList_eq]; exact e
          rw [← S_data s, e2]
          rfl)
        have te : (s.toList == []) = false := by simpa using te0
        have te2 : s.toList.isEmpty = false := by simpa using te0
        have HSE := Lib.hid hse
        clear hse te0
        have hsm : k ≤ 1048576 := by omega
        go_wp2_with fail
        refine (spec_chain_text hsm HVS.out (Nat.le_refl _)).mono ?_
        rintro e W2 ⟨rfl, hb2⟩
        have HB2 : Hid (Below w.heap.size w W2) := Lib.hid (HBR.out.trans (hb2.mono HBR.out.size))
        have HOWN2 := Lib.hid (own_below HOWN.out hb2)
        clear hb2
        by_cases hq : chT l = s
        · have tq : ((chT l).toList == s.toList) = true := by rw [hq]; simp
          have HQ := Lib.hid hq
          clear hq
          go_wp2_with fail
          go_ret2
          have hcb : chB l = true := by
            rcases h : chB l with _ | _
            · exfalso
              exact HSE.out (by rw [← HQ.out]; exact (chT_no h).symm)
            · rfl
          exact .inl ⟨l, _, ⟨hcb, by rw [HL.out]; exact hk100, HQ.out⟩, rfl, by rw [HL.out]; exact HOWN2.out, HB2.out⟩
        · have tq := str_ne hq
          have HQ := Lib.hid hq
          clear hq
          go_wp2_with fail
          go_ret2
          exact .inr ⟨(fun l0 h0 => by have e := HGL.out l0 h0; subst e; exact HQ.out h0.2.2), ⟨_, _, rfl⟩, HB2.out.alloc HB2.out.size _⟩
    by_cases hlt2 : k < 100
    case neg =>
      have t : decide (k < n) = true := decide_eq_true hlt
      have t2 : decide ((k : Int) < 100) = false := decide_eq_false (by omega)
      have HKN : Hid (∀ m : Nat, n = m → m ≤ 100 → k = n) := Lib.hid (fun m h1 h2 => by omega)
      obtain ⟨l, hl, hgot, hown⟩ := hcol
      obtain ⟨A, c, rfl, hvs⟩ := own_vs hown hl
      have HL := Lib.hid hl
      have HGOT := Lib.hid hgot
      have HOWN := Lib.hid hown
      have HVS := Lib.hid hvs
      clear hl hgot hown hvs hbr hbl
      have hgl : ∀ l0, parse.Good s l0 → l = l0 := fun l0 h0 => by
        have e0 := good_piec h0
        rw [← HP.out] at e0
        have e1 := congrArg List.length e0
        rw [List.length_map, HN.out] at e1
        refine got_all h0 (by rw [show l0.map vt = P.map S by rw [e0, List.map_map]; rfl]; exact HGOT.out) ?_
        rw [HL.out, HKN.out _ e1 h0.2.1, e1]
      have HGL := Lib.hid hgl
      clear hgl
      by_cases hse : s = ⟨#[]⟩
      · have te : (s.toList == []) = true := by rw [hse, ByteArray.toList_eq]; rfl
        have te2 : s.toList.isEmpty = true := by rw [hse, ByteArray.toList_eq]; rfl
        have HSE := Lib.hid hse
        clear hse
        go_wp2_with fail
        go_ret2
        exact .inr ⟨fun l0 h0 => good_some h0 HSE.out, ⟨_, _, rfl⟩, HBR.out.alloc HBR.out.size _⟩
      · have te0 : s.toList ≠ [] := fun e => hse (by
          have e2 : s.data.toList = [] := by rw [← ByteArray.toList_eq]; exact e
          rw [← S_data s, e2]
          rfl)
        have te : (s.toList == []) = false := by simpa using te0
        have te2 : s.toList.isEmpty = false := by simpa using te0
        have HSE := Lib.hid hse
        clear hse te0
        have hsm : k ≤ 1048576 := by omega
        go_wp2_with fail
        refine (spec_chain_text hsm HVS.out (Nat.le_refl _)).mono ?_
        rintro e W2 ⟨rfl, hb2⟩
        have HB2 : Hid (Below w.heap.size w W2) := Lib.hid (HBR.out.trans (hb2.mono HBR.out.size))
        have HOWN2 := Lib.hid (own_below HOWN.out hb2)
        clear hb2
        by_cases hq : chT l = s
        · have tq : ((chT l).toList == s.toList) = true := by rw [hq]; simp
          have HQ := Lib.hid hq
          clear hq
          go_wp2_with fail
          go_ret2
          have hcb : chB l = true := by
            rcases h : chB l with _ | _
            · exfalso
              exact HSE.out (by rw [← HQ.out]; exact (chT_no h).symm)
            · rfl
          exact .inl ⟨l, _, ⟨hcb, by rw [HL.out]; exact hk100, HQ.out⟩, rfl, by rw [HL.out]; exact HOWN2.out, HB2.out⟩
        · have tq := str_ne hq
          have HQ := Lib.hid hq
          clear hq
          go_wp2_with fail
          go_ret2
          exact .inr ⟨(fun l0 h0 => by have e := HGL.out l0 h0; subst e; exact HQ.out h0.2.2), ⟨_, _, rfl⟩, HB2.out.alloc HB2.out.size _⟩
    have t : decide (k < n) = true := decide_eq_true hlt
    have t2 : decide ((k : Int) < 100) = true := decide_eq_true (by omega)
    have hpk : P[k]? = some (P[k]'(by have := HN.out; omega)) := List.getElem?_eq_getElem _
    generalize (P[k]'(by have := HN.out; omega)) = q at hpk
    have hqc : wr.cell? ⟨g, k, none⟩ = some (.string (S q)) := by rw [hbl.cell k]; exact HCUR.out k q hpk
    have hqz : (S q).size ≤ 1048576 := by
      have := HPZ.out q (List.mem_of_getElem? hpk)
      rw [S_size]
      rw [List.length_nil, Nat.zero_add] at this
      omega
    have HR := Lib.hid (read_text (S q) hqz)
    have HCOL := Lib.hid hcol
    have HBL := Lib.hid hbl
    have HPK := Lib.hid hpk
    have k1 : (0 : Int) ≤ (k : Int) := by omega
    have k2 : (k : Int) < (n : Int) := by omega
    clear hcol hbr hbl hpk hqz
    go_wp2_with fail
    refine (HR.out wr).mono ?_
    rintro e W2 ⟨x, rfl, hx, hb2⟩
    obtain ⟨l, hl, hgot, hown⟩ := HCOL.out
    have hown2 := own_below hown hb2
    have HB2 : Hid (Below w.heap.size w W2) := Lib.hid (HBR.out.trans (hb2.mono HBR.out.size))
    have HBL2 : Hid (Blk W2 g 9 cur) := Lib.hid (HBL.out.below hb2 HBL.out.lt)
    have HX := Lib.hid hx
    have HL := Lib.hid hl
    have HGOT := Lib.hid hgot
    have HOWN2 := Lib.hid hown2
    have hmax : k + 1 ≤ maxLen := by unfold maxLen; omega
    have hbyt : (k + 1) * 40 ≤ 140737488355328 := by omega
    have hws : w.heap.size ≤ W2.heap.size := HB2.out.size
    have hbase : ∀ o o', w.heap.size ≤ ((W2.alloc o).alloc o').heap.size := fun o o' => by simp; omega
    clear hown hown2 hb2 hl hgot hx
    go_wp2_with (at_builtin; refine wpList_append_own _ rfl _ _ 24 rfl w.heap.size 30 i0 (.agg #[.int .i64 0, .int .i64 0, .int .i64 0, .int .i64 0, .int .i64 0]) 5 40 Tryz.underlying24 HI.out HZ0.out HZ1.out HZ2.out rfl (by decide) _ _ _ rfl ((HOWN2.out.alloc _).alloc _) ⟨_, 0, none⟩ 1 1 [.int .i64 x.a, .int .i64 x.b, .int .i64 x.c, .int .i64 x.d, .int .i64 x.e] rfl rfl (cells5' W2 x _ _) (one5 x) hmax hbyt (hbase _ _) ?_)
    intro v' w1 hown' hgrow _
    have hrow := fun q hq => (HOWN2.out.lt q hq).1
    have hb4 : Below w.heap.size w w1 := ((HB2.out.alloc HB2.out.size _).alloc (by simp; omega) _).grown hgrow (hbase _ _) hrow
    have hbl4 : Blk w1 g 9 cur := ((HBL2.out.alloc _).alloc _).grown hgrow (fun e => own_ne HOWN2.out HBL2.out e.symm)
    have hcol4 : Col (P.map S) w.heap.size v' (k + 1) w1 := ⟨l ++ [x], by simp [HL.out], got_snoc HGOT.out (by rw [HL.out, List.getElem?_map, HPK.out]; rfl) HX.out, by rw [flat_snoc]; exact hown'⟩
    have HB4 := Lib.hid hb4
    have HBL4 := Lib.hid hbl4
    have HCOL4 := Lib.hid hcol4
    clear hown' hgrow hrow hb4 hbl4 hcol4 hmax hbyt hbase
    go_wp2_with fail
    go_roundw
    case rel => exact ⟨k + 1, by omega, by omega, by go_num, HCOL4.out, HB4.out, HBL4.out⟩
    case measure => simp [intOf]; omega
end Go.Proofs.YtleeglgjaifejaaGreatDoor.sparse
