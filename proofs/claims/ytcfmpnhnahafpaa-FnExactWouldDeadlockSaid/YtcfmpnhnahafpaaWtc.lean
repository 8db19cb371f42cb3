/- WaitChain of the program and of the model: what each answers, in memory of its own; slices.Contains at integers. -/
import Derived.Test.YtcfmpnhnahafpaaWts
import Derived.Test.YtcfmpnhnahafpaaLkr
import Derived.WalkMore
import Derived.ScopeJumps
namespace Go.Proofs.Ytcfmpnhnahafpaa.wtc
open Go.ChangeShapes Go.WideShapes Go.ChangeAt Go.RowKit
open Go.Proofs.Ytcfmpnhnahafpaa.el2 Go.Proofs.Ytcfmpnhnahafpaa.seq Go.Proofs.Ytcfmpnhnahafpaa.pw Go.Proofs.Ytcfmpnhnahafpaa.mw Go.Proofs.Ytcfmpnhnahafpaa.ints Go.Proofs.Ytcfmpnhnahafpaa.owi Go.Proofs.Ytcfmpnhnahafpaa.wt Go.Proofs.Ytcfmpnhnahafpaa.wta Go.Proofs.Ytcfmpnhnahafpaa.wtf
open Go.Proofs.Ytcfmpnhnahafpaa.vers (In in_yes in_no in_of in_off ret_b)
open Go.Proofs.Ytcfmpnhnahafpaa.lk (ownI own_none own_mem)
open Go.Proofs.Ytcfmpnhnahafpaa.lka (in_q is_id id_q)
open Go.Proofs.Ytcfmpnhnahafpaa.lkr (own_hit own_step own_end)
open Go.Proofs.Ytcfmpnhnahafpaa.wk (own_made0 grown_i)
open Go.Proofs.Ytcfmpnhnahafpaa.bx (own_more)
set_option linter.unusedVariables false
set_option linter.unusedSimpArgs false
theorem ret_i {a b : Int} (h : a = b) : Ending.returned (.int .i64 a) = .returned (.int .i64 b) := by rw [h]
/-! what the search of a wait says of the chain -/
theorem hit_own {l : List E2} {x : Int} (hl : wtB l = true) (h : hitW x l = true) : ∃ y, l[posW x l]? = some y ∧ y.b = ownI x l ∧ 1 ≤ y.b ∧ y.b ≤ 9 := by
  have h1 := of_decide_eq_true h
  rcases hg : l[posW x l]? with _ | y
  · rw [hg] at h1; cases h1
  · rw [hg] at h1
    have e : y.a = x := by simpa using h1
    have hm := List.mem_of_getElem? hg
    refine ⟨y, rfl, ?_, (wt_ok hl hm).2.1⟩
    rw [← e, own_mem (wt_asc hl) hm]
theorem hit_none {l : List E2} {x : Int} (hl : wtB l = true) (h : hitW x l = false) : ownI x l = 0 := own_none fun y hy e => by
  have h1 := of_decide_eq_false h
  have hp : posW x l ≤ l.length := posW_le x l
  have hge := @posW_ge x l (wt_asc hl)
  have hlt := @posW_lt x l
  rw [← List.take_append_drop (posW x l) l] at hy
  rcases List.mem_append.1 hy with hy | hy
  · have := hlt hy; omega
  · obtain ⟨z, r, hz⟩ : ∃ z r, l.drop (posW x l) = z :: r := by
      cases hd : l.drop (posW x l) with
      | nil => rw [hd] at hy; cases hy
      | cons z r => exact ⟨z, r, rfl⟩
    have hg : l[posW x l]? = some z := by
      have : (l.drop (posW x l))[0]? = some z := by rw [hz]; rfl
      rw [List.getElem?_drop] at this
      simpa using this
    have hza : z.a ≠ x := fun e2 => h1 (by rw [hg]; simp [e2])
    have hzge := hge (x := z) (by rw [hz]; simp)
    have hasc : Asc (l.drop (posW x l)) := List.Pairwise.sublist (List.drop_sublist _ _) (wt_asc hl)
    rw [hz] at hasc hy
    rcases List.mem_cons.1 hy with e2 | hy
    · exact hza (by rw [← e2]; exact e)
    · have := (List.pairwise_cons.1 hasc).1 y hy
      omega
theorem is_own {w : World} {base n c : Nat} {A : Option Addr} {xs : List Int} (h : w.ownsRow base 3 1 (.slice A n c) n (mi xs)) (hl : xs.length = n) (hb : base ≤ w.heap.size) : Is w w.heap.size A n xs :=
  (OwI.of_own (lo := base) (hi := w.heap.size) h hl (Nat.le_refl _) (Nat.le_refl _)).is (Nat.le_refl _)
/-! slices.Contains -/
set_option maxRecDepth 100000 in
set_option maxHeartbeats 1600000 in
theorem lib_idx {w : World} {B n c : Nat} {A : Option Addr} {xs : List Int} (x : Int) (hn : n ≤ 1048576) (h : Is w B A n xs) :
    Calls Try.prog 51 #[.slice A n c, .int .i64 x] w fun e w' => (∃ z : Int, e = .returned (.int .i64 z) ∧ (0 ≤ z ↔ x ∈ xs)) ∧ w = w' := by
  have H := Lib.hid h
  have hln := h.1
  clear h
  go_enter Try.func51, Try.ntmps51
  go_wp2_with fail
  go_loop [5, 8] (fun _ i => ∃ k : Nat, k ≤ n ∧ i = .int .i64 k ∧ ∀ (j : Nat) (y : Int), j < k → xs[j]? = some y → y ≠ x) (fun _ i => n - (intOf i).toNat)
  case atStart => exact ⟨0, by omega, rfl, fun j y h => absurd h (by omega)⟩
  case round =>
    obtain ⟨k, hk, rfl, hP⟩ := hrel
    have HP := Lib.hid hP
    clear hP
    by_cases hlt : k < n
    · obtain ⟨b, o, y, rfl, hbB, hy, a0⟩ := H.out.at_ hlt
      have HY := Lib.hid hy
      clear hy
      by_cases hc : x = y
      · have t : (x == y) = true := by simpa using hc
        have HC := Lib.hid hc
        clear hc
        go_wp2_with fail
        go_ret
        exact ⟨⟨k, rfl, ⟨fun _ => by rw [HC.out]; exact List.mem_of_getElem? HY.out, fun _ => by omega⟩⟩, rfl⟩
      · have t : (x == y) = false := by simpa using hc
        have HC := Lib.hid hc
        clear hc
        go_wp2_with fail
        go_round
        case rel => exact ⟨k + 1, by omega, by go_num, fun j z hj hz => by
          rcases Nat.lt_or_ge j k with h9 | h9
          · exact HP.out j z h9 hz
          · obtain rfl : j = k := by omega
            rw [HY.out] at hz
            injection hz with hz
            subst hz
            exact fun e => HC.out e.symm⟩
        case measure => simp [intOf]; omega
    · go_wp2_with fail
      go_ret
      exact ⟨⟨-1, rfl, ⟨fun h => absurd h (by omega), fun hm => by
        obtain ⟨j, hj, e⟩ := List.getElem_of_mem hm
        exact absurd e (HP.out j _ (by omega) (List.getElem?_eq_getElem hj))⟩⟩, rfl⟩
theorem contains_i {w : World} {B n c : Nat} {A : Option Addr} {xs : List Int} (x : Int) (hn : n ≤ 1048576) (h : Is w B A n xs) :
    Calls Try.prog 39 #[.slice A n c, .int .i64 x] w fun e w' => e = .returned (.bool (decide (x ∈ xs))) ∧ w = w' := by
  have HF := Lib.hid (lib_idx (c := c) x hn h)
  clear h
  go_enter Try.func39, Try.ntmps39
  go_wp2_with fail
  refine HF.out.mono ?_
  rintro e W1 ⟨⟨z, rfl, hz⟩, rfl⟩
  have HZ := Lib.hid hz
  clear hz
  go_wp2_with fail
  go_ret
  exact ⟨ret_b (decide_eq_decide.2 HZ.out), rfl⟩
/-! the model's look-up -/
set_option maxRecDepth 100000 in
set_option maxHeartbeats 1600000 in
theorem for_w {w : World} {B n c : Nat} {A : Option Addr} {l : List E2} (key : Int) (hn : n ≤ 140737488355328) (h1 : Vs w B A n l) (hB : B ≤ w.heap.size) :
    Calls Try.prog 40 #[.slice A n c, .int .i64 key] w fun e w' => e = .returned (.int .i64 (ownI key l)) ∧ w = w' := by
  have H1 := Lib.hid h1
  have hln := h1.1
  clear h1
  go_enter Try.func40, Try.ntmps40
  go_wp2
  go_loop [5] (fun i => ∃ k : Nat, k ≤ n ∧ i = .int .i64 k ∧ ownI key l = ownI key (l.drop k)) (fun i => n - (intOf i).toNat)
  case atStart => exact ⟨0, by omega, rfl, rfl⟩
  case round =>
    obtain ⟨k, hk, rfl, hP⟩ := hrel
    have HP := Lib.hid hP
    clear hP
    by_cases hlt : k < n
    · obtain ⟨b, o, y, rfl, hbB, hx, a0, a1⟩ := H1.out.at_ hlt
      have HX := Lib.hid hx
      clear hx
      by_cases hc : y.a = key
      · have t : (y.a == key) = true := by simpa using hc
        have HC := Lib.hid hc
        clear hc
        go_wp2_with fail
        go_ret
        exact ⟨ret_i (own_hit HP.out HX.out HC.out), rfl⟩
      · have t : (y.a == key) = false := by simpa using hc
        have HC := Lib.hid hc
        clear hc
        go_wp2_with fail
        go_round
        case rel => exact ⟨k + 1, by omega, by go_num, own_step HP.out HX.out HC.out⟩
        case measure => simp [intOf]; omega
    · go_wp2_with fail
      go_ret
      exact ⟨ret_i (own_end HP.out (by omega)), rfl⟩
/-! the chain -/
theorem chw_bad {l : List E2} {i : Int} (h : wtB l = false ∨ In 1 9 i = false) : chL l i = [] := by
  unfold chL
  split
  · rename_i h2
    rcases h with h | h
    · rw [h] at h2; cases h2
    · have := in_no h
      unfold chF
      exact if_neg (by omega)
  · rfl
/-- a scope with one label: what holds at the label, and the rest from there on -/
theorem scope_label {P : Program} {a : Act} {w : World} {Q : Exit → Act → World → Prop} {c rest : Code} (l : Nat) (J : Act → World → Prop) (μ : Act → World → Nat) (hf : findLabel c l = some (Code.seq Code.skip rest))
    (pass : ∀ a w, J a w → rest.wp P (Exit.jump l (fun a' w' => J a' w' ∧ μ a' w' < μ a w) Q) a w)
    (first : (∀ a w, J a w → rest.wp P (Exit.jump l J Q) a w) → c.wp P (Exit.jump l J Q) a w) : (Code.scope c).wp P Q a w :=
  wp_scope_jumps l J μ hf (first fun a w h => wp_mono (pass a w h) (fun e a w hq => by
    cases e with
    | goto l' => exact ⟨hq.1, hq.2.1⟩
    | _ => exact hq)) (fun a w h => wp_seq (wp_skip (pass a w h)))
def lenOf : Value → Nat | .slice _ n _ => n | _ => 0
/-- what holds at the label -/
def JW (A : Option Addr) (n c : Nat) (l : List E2) (i : Int) (w : World) : Act → World → Prop := fun a' w' => ∃ (out : List Int) (m : Nat) (x : Int) (A5 : Option Addr) (c5 : Nat) (u2 u3 u6 u7 u8 u9 u10 u11 u12 u13 u14 u15 u16 u17 u18 u19 u20 u21 u22 u23 u24 u25 u26 u27 u28 u29 u30 u31 u32 u33 u34 u35 u36 u37 u38 : Value), a' = { tmps := #[.slice A n c, .int .i64 x, u2, u3, .slice none 0 0, .slice A5 m c5, u6, u7, u8, u9, u10, u11, u12, u13, u14, u15, u16, u17, u18, u19, u20, u21, u22, u23, u24, u25, u26, u27, u28, u29, u30, u31, u32, u33, u34, u35, u36, u37, u38], defers := [] } ∧ out.length = m ∧ Ch l i out x ∧ (1 ≤ x ∧ x ≤ 9) ∧ w'.ownsRow w.heap.size 3 1 (.slice A5 m c5) m (mi out) ∧ Below w.heap.size w w'
set_option maxRecDepth 100000 in
set_option maxHeartbeats 3200000 in
theorem impl_wc {w : World} {B n c : Nat} {A : Option Addr} {l : List E2} (i : Int) (hn : n ≤ 1048576) (h1 : Vs w B A n l) (hB : B ≤ w.heap.size) :
    Calls Try.prog 17 #[.slice A n c, .int .i64 i] w fun e w' => ∃ A' c', e = .returned (.slice A' (chL l i).length c') ∧ w'.ownsRow w.heap.size 3 1 (.slice A' (chL l i).length c') (chL l i).length (mi (chL l i)) ∧ Below w.heap.size w w' := by
  have H1 := Lib.hid h1
  clear h1
  obtain ⟨i0, hi, hz, hs, hby⟩ := info_parts info_i
  have HI := Lib.hid hi
  have HZ := Lib.hid hz
  have HS := Lib.hid hs
  have HBY := Lib.hid hby
  clear hi hz hs hby
  rcases hl : wtB l with _ | _
  · have HE := Lib.hid (chw_bad (i := i) (.inl hl))
    have HL := Lib.hid hl
    clear hl
    go_enter Try.func17, Try.ntmps17
    go_wp2_with fail
    go_step3
    go_wp2_with fail
    refine (wt_impl (by omega) H1.out hB).mono ?_
    rintro e W1 ⟨he, hb⟩
    rw [HL.out] at he
    subst he
    have HB := Lib.hid hb
    clear hb
    go_wp2_with fail
    try rw [Exit.noGoto_ret]
    go_ret
    rw [HE.out]
    exact ⟨none, 0, rfl, by simpa using World.ownsRow_nil _ _ _ _, HB.out⟩
  have HL := Lib.hid hl
  clear hl
  rcases hid : In 1 9 i with _ | _
  · have HE := Lib.hid (chw_bad (l := l) (.inr hid))
    have HK1 := Lib.hid hid
    clear hid
    go_enter Try.func17, Try.ntmps17
    go_wp2_with fail
    go_step3
    go_wp2_with fail
    refine (wt_impl (by omega) H1.out hB).mono ?_
    rintro e W1 ⟨he, hb⟩
    rw [HL.out] at he
    subst he
    have HB := Lib.hid hb
    clear hb
    go_wp2_with fail
    refine (id_q HK1.out _).mono ?_
    rintro e W2 ⟨rfl, rfl⟩
    go_wp2_with fail
    try rw [Exit.noGoto_ret]
    go_ret
    rw [HE.out]
    exact ⟨none, 0, rfl, by simpa using World.ownsRow_nil _ _ _ _, HB.out⟩
  have HK1 := Lib.hid hid
  clear hid
  go_enter Try.func17, Try.ntmps17
  go_wp2_with fail
  refine scope_label 0 (JW A n c l i w) (fun a' _ => 10 - lenOf (a'.tmps.getD 5 undef)) rfl ?_ ?_
  · rintro a' w' ⟨out, m, x, A5, c5, u2, u3, u6, u7, u8, u9, u10, u11, u12, u13, u14, u15, u16, u17, u18, u19, u20, u21, u22, u23, u24, u25, u26, u27, u28, u29, u30, u31, u32, u33, u34, u35, u36, u37, u38, rfl, hm, hC, hx, ho, hb⟩
    have hm9 : m ≤ 9 := by rw [← hm]; exact hC.len
    have HM := Lib.hid hm
    have HC := Lib.hid hC
    have HO := Lib.hid ho
    have HB := Lib.hid hb
    have HX := Lib.hid hx
    clear hm hC ho hb hx
    go_wp2_with fail
    refine (contains_i x (by omega) (is_own HO.out HM.out HB.out.size)).mono ?_
    rintro e W1 ⟨he, rfl⟩
    have hsz := HB.out.size
    have hn1 := new1 w' (.cells #[.int .i64 x] 3)
    have hO3 := own_keep HO.out hn1
    have hone : (w'.alloc (.cells #[.int .i64 x] 3)).cell? ⟨w'.heap.size, 0, none⟩ = some (.int .i64 x) := World.cell?_alloc_mark w' _ 3 _ 0
    obtain ⟨v', w4, hr, ho4, hg4⟩ := run_append_i (P := Try.prog) (w'.alloc (.cells #[.int .i64 x] 3)) 31 31 3 i0 _ Try.underlying31 HI.out HZ.out HS.out HBY.out rfl hO3 hone (c := 1) (by omega) (by simp; omega)
    have hb4 : Below w.heap.size w w4 := (HB.out.trans (hn1.mono hsz)).trans (grown_i hO3 hg4 (by simp; omega))
    obtain ⟨A4, c4, rfl⟩ := own_form ho4
    have O4 := Lib.hid ho4
    have B4 := Lib.hid hb4
    clear hO3 hone hn1 ho4 hg4 hb4 hsz
    by_cases hin : x ∈ out
    · rw [decide_eq_true hin] at he
      subst he
      have HE := Lib.hid (HC.out.twice (by have := HX.out; omega) hin)
      clear hin
      go_wp2_with (first | (at_builtin; refine Lib.wpList_append_run _ rfl _ _ 31 31 rfl _ _ rfl rfl _ _ hr ?_; clear hr) | fail)
      simp only [Exit.jump]
      go_ret
      rw [HE.out, List.length_append, HM.out]
      exact ⟨_, _, rfl, O4.out, B4.out⟩
    rw [decide_eq_false hin] at he
    subst he
    have HC2 := Lib.hid (HC.out.next (by have := HX.out; omega) hin)
    clear hin
    go_wp2_with (first | (at_builtin; refine Lib.wpList_append_run _ rfl _ _ 31 31 rfl _ _ rfl rfl _ _ hr ?_; clear hr) | fail)
    refine (find_w x (by omega) (H1.out.below (below_le B4.out hB)) (by have := B4.out.size; omega) (wt_asc HL.out)).mono ?_
    rintro e W5 ⟨he, hb5⟩
    have HB5 := Lib.hid (B4.out.trans (hb5.mono B4.out.size))
    have HO5 := Lib.hid (own_keep O4.out hb5)
    clear hb5
    obtain ⟨p, hp⟩ : ∃ p, posW x l = p := ⟨_, rfl⟩
    rw [hp] at he
    rcases hq : hitW x l with _ | _
    · rw [hq] at he
      subst he
      have HE := Lib.hid (HC2.out.stop (by rw [hit_none HL.out hq]; omega))
      clear hq hp
      go_wp2_with fail
      try simp only [Exit.jump]
      go_ret
      rw [HE.out, List.length_append, HM.out]
      exact ⟨_, _, rfl, HO5.out, HB5.out⟩
    · rw [hq] at he
      subst he
      obtain ⟨y, hy1, hy2, hy3⟩ := hit_own HL.out hq
      rw [hp] at hy1
      have HY2 := Lib.hid hy2
      have HY3 := Lib.hid hy3
      have hpn : p < n := by have := lt_get hy1; have := H1.out.1; omega
      obtain ⟨b, o, z, rfl, hbB, hz1, a0, a1⟩ := (H1.out.below (below_le HB5.out hB)).at_ hpn
      rw [hy1] at hz1
      injection hz1 with hz1
      subst hz1
      have hpi : (p : Int) < (n : Int) := by omega
      have hl9 := HC2.out.len
      rw [List.length_append, HM.out] at hl9
      have HL9 := Lib.hid hl9
      clear hq hp hy1 hy2 hy3 hl9
      go_wp2_with fail
      go_step3
      refine ⟨rfl, ⟨out ++ [x], m + 1, y.b, A4, c4, _, _, _, _, _, _, _, _, _, _, _, _, _, _, _, _, _, _, _, _, _, _, _, _, _, _, _, _, _, _, _, _, _, _, _, rfl, by rw [List.length_append, HM.out]; rfl, by rw [HY2.out]; exact HC2.out, HY3.out, HO5.out, HB5.out⟩, ?_⟩
      have h9 := HL9.out
      simp only [List.length_singleton] at h9
      simp [lenOf]
      omega
  · intro hrest
    have HREST := Lib.hid hrest
    clear hrest
    go_wp2_with fail
    refine (wt_impl (by omega) H1.out hB).mono ?_
    rintro e W1 ⟨he, hb⟩
    rw [HL.out] at he
    subst he
    have HB := Lib.hid hb
    clear hb
    go_wp2_with fail
    refine (id_q HK1.out _).mono ?_
    rintro e W2 ⟨rfl, rfl⟩
    go_wp2_with fail
    go_step3
    rename_i hk9
    refine hk9 _ _ (HREST.out _ _ ⟨[], 0, i, none, 0, _, _, _, _, _, _, _, _, _, _, _, _, _, _, _, _, _, _, _, _, _, _, _, _, _, _, _, _, _, _, _, _, _, _, _, rfl, rfl, Ch.start HL.out, in_yes HK1.out, by simpa using World.ownsRow_nil _ _ _ _, HB.out⟩)
end Go.Proofs.Ytcfmpnhnahafpaa.wtc
