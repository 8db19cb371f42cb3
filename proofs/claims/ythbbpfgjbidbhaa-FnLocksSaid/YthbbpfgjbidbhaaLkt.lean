/- The program's table of locks: lockTableOf, acquire and sorted, each under its mutex: what each answers. -/
import Derived.Test.YthbbpfgjbidbhaaLk
import Derived.Test.YthbbpfgjbidbhaaSrtk
import Derived.Test.YthbbpfgjbidbhaaMul
import Derived.Test.YthbbpfgjbidbhaaCm
import Derived.Test.YthbbpfgjbidbhaaLkd
import Derived.Maps.RangeWalk
import Derived.Maps.OwnOps
import Derived.Maps.OwnSet
import Derived.WalkSpells
namespace Go.Proofs.Ythbbpfgjbidbhaa.lkt
open Go.ChangeShapes Go.WideShapes Go.ChangeAt Go.RowKit
open Go.Proofs.Ythbbpfgjbidbhaa.el2 Go.Proofs.Ythbbpfgjbidbhaa.fr Go.Proofs.Ythbbpfgjbidbhaa.ow2 Go.Proofs.Ythbbpfgjbidbhaa.ap Go.Proofs.Ythbbpfgjbidbhaa.mw Go.Proofs.Ythbbpfgjbidbhaa.lk Go.Proofs.Ythbbpfgjbidbhaa.mul
open Go.Proofs.Ythbbpfgjbidbhaa.lkd (info_lk one_vs)
open Go.Maps (Keyed int_keyed keyOf_int_mk)
open Go.MuLone
set_option linter.unusedVariables false
set_option linter.unusedSimpArgs false
theorem law_i : Keyed Try.prog 3 := int_keyed Try.underlying3
theorem run_makeMap_hint {P : Program} (t k e : TypeId) (ht : P.underlying t = some (.map k e)) (x : Int) (w : World) (h0 : 0 ≤ x) (h1 : x ≤ 4611686018427387904) : (Instr.makeMap t (some (.int .i64 x))).run P w = .ok (.map (some w.heap.size)) (w.alloc (.map #[] 0)) := by
  have wx : IntKind.i64.wrap x = x := by rw [IntKind.wrap_i64]; omega
  have n1 : ¬ x < 0 := by omega
  simp [Instr.makeMap, run_underlying ht, asInt, asIntOf, wx, n1]
/-! the sort -/
def encW (x : E2) : List Value := [.int .i64 x.a, .int .i64 x.b]
def cfW (x y : E2) : Int := Go.Proofs.Ythbbpfgjbidbhaa.cm.cmpI x.a y.a
theorem lt_cf (x y : E2) : ltOf cfW x y = decide (x.a < y.a) := by
  unfold ltOf cfW
  rcases Go.Proofs.Ythbbpfgjbidbhaa.cm.cmpI_cases x.a y.a with ⟨h, e⟩ | ⟨h, e⟩ | ⟨h, e⟩
  · rw [e]; simp [h]
  · rw [e]; simp [h]
  · rw [e]; simp; omega
theorem swo_cf : Go.Sort.SWO (ltOf cfW) where
  irrefl x := by rw [lt_cf]; simp
  trans x y z h1 h2 := by rw [lt_cf] at *; simp at *; omega
  ntrans x y z h1 h2 := by rw [lt_cf] at *; simp at *; omega
set_option maxHeartbeats 1000000 in
theorem compare_locks (x y : E2) (W : World) : Calls Try.prog 51 #[.agg #[.int .i64 x.a, .int .i64 x.b], .agg #[.int .i64 y.a, .int .i64 y.b]] W fun e w' => e = .returned (.int .i64 (cfW x y)) ∧ ∃ q os', w' = Go.Sort.grow (W.drewN q) os' := by
  have hcon := fun W' => Go.Proofs.Ythbbpfgjbidbhaa.cm.compare_int x.a y.a W'
  unfold cfW
  generalize Go.Proofs.Ythbbpfgjbidbhaa.cm.cmpI x.a y.a = r at hcon ⊢
  go_enter Try.func51, Try.ntmps51
  go_wp2_with (go_at_call 57; refine (hcon _).mono ?_; rintro e w' ⟨rfl, rfl⟩)
  go_ret
  exact ⟨rfl, 0, _, by rw [Go.Sort.alloc_eq_grow, Go.Sort.alloc_eq_grow, Go.Sort.grow_grow]; rfl⟩
theorem cmp_lays (blk off size : Nat) (w : World) : CmpLays Try.prog 51 #[] encW 2 cfW blk off size w := fun _ _ _ _ x y => compare_locks x y _
theorem heap_sort {w : World} {g n : Nat} {d : Array E2} {os : Array Obj} {cur : Array Value} {e : TypeId} {fr : Nat × Nat} (h : w.heap[g]? = some (.cells cur e fr)) :
    ∃ cur' : Array Value, (sortWorldK encW 2 w g 0 n d os).heap[g]? = some (.cells cur' e fr) ∧ cur'.size = cur.size := by
  have hg : g < w.heap.size := (Array.getElem?_eq_some_iff.1 h).1
  refine ⟨Go.Sort.putCells id 0 (Go.Sort.flatK encW 2 d) cur, ?_, by simp [Go.Sort.putCells]⟩
  show (w.heap.modify g (Go.Sort.onCells (Go.Sort.putCells id 0 (Go.Sort.flatK encW 2 d))) ++ os)[g]? = _
  rw [Array.getElem?_append_left (by simpa using hg), Array.getElem?_modify]
  simp [h, Go.Sort.onCells]
theorem grown_sort (w : World) (g n : Nat) (d : Array E2) (os : Array Obj) : w.grownBy (sortWorldK encW 2 w g 0 n d os) (some g) := by
  refine ⟨rfl, rfl, rfl, ?_, fun k hk hne => ?_⟩
  · show w.heap.size ≤ (w.heap.modify g _ ++ os).size
    simp
  · show (w.heap.modify g (Go.Sort.onCells (Go.Sort.putCells id 0 (Go.Sort.flatK encW 2 d))) ++ os)[k]? = _
    rw [Array.getElem?_append_left (by simpa using hk), Array.getElem?_modify, if_neg (fun e => hne (by rw [e]))]
theorem rw_of_cells {w : World} {e : TypeId} {g cap : Nat} {l : List E2} {cur : Array Value} (hg : w.heap[g]? = some (.cells cur e (0, 0))) (hs : cur.size = cap * 2) (hl : l.length ≤ cap) (hm : cap ≤ maxLen) (hc : ∀ k x, l[k]? = some x → At w g (0 + k * 2) x) : Rw w e g cap l := by
  refine ⟨cur, hg, hl, hm, hs, List.ext_getElem? fun i => ?_⟩
  by_cases hi : i < l.length * 2
  · have hf : i < (flat l).length := by rw [flat_len]; omega
    have h1 := at_cells hc i _ (List.getElem?_eq_getElem hf)
    rw [List.getElem?_eq_getElem hf, List.getElem?_take, if_pos hi, Array.getElem?_toList, ← h1, Addr.add_lit]
    simp [World.cell?, hg]
  · rw [List.getElem?_eq_none (by rw [List.length_take]; omega), List.getElem?_eq_none (by rw [flat_len]; omega)]
theorem holds_rw {w : World} {e : TypeId} {g cap : Nat} {l : List E2} (h : Rw w e g cap l) : Go.Sort.HoldsK encW 2 w g 0 l.toArray := by
  intro j hj
  have hj2 : j < l.length * 2 := by simpa using hj
  have hk : j / 2 < l.length := by omega
  obtain ⟨h0, h1⟩ := h.at_ (j / 2) _ (List.getElem?_eq_getElem hk)
  have hf := (shape_rw h).2 (0 + j)
  have hx : l.toArray[j / 2]! = l[j / 2] := by simp [hk]
  refine ⟨?_, hf⟩
  rw [Go.Sort.get_flatK encW 2 _ j (by simpa using hj2), hx]
  rcases Nat.mod_two_eq_zero_or_one j with q | q
  · rw [q, show (0 + j) = 0 + j / 2 * 2 by omega, h0]; rfl
  · rw [q, show (0 + j) = 0 + j / 2 * 2 + 1 by omega, h1]; rfl
theorem at_sort {W : World} {g : Nat} {d : Array E2} (h : Go.Sort.HoldsK encW 2 W g 0 d) : ∀ k x, d.toList[k]? = some x → At W g (0 + k * 2) x := by
  intro k x hx
  have hk : k < d.size := by have := lt_get hx; simpa using this
  have hd : d[k]! = x := by
    rw [List.getElem?_eq_getElem (by simpa using hk)] at hx
    injection hx with hx
    rw [getElem!_pos d k hk, ← hx]; simp
  have h0 := (Go.Sort.HoldsK.cell h hk (show 0 < 2 by decide)).1
  have h1 := (Go.Sort.HoldsK.cell h hk (show 1 < 2 by decide)).1
  rw [hd] at h0 h1
  exact ⟨h0, h1⟩
theorem sorted_asc {d : Array E2} {r : List E2} (hp : d.toList.Perm r) (hs : Go.Sort.SortedIn (ltOf cfW) 0 d.size d) (hn : r.Pairwise (fun x y => x.a ≠ y.a)) : Asc d.toList := by
  have h1 : d.toList.Pairwise (fun x y => x.a ≠ y.a) := (hp.pairwise_iff (fun {a b} h => Ne.symm h)).2 hn
  have h2 : d.toList.Pairwise (fun x y => x.a ≤ y.a) := by
    rw [List.pairwise_iff_getElem]
    intro i j hi hj hij
    have := hs i j (Nat.zero_le _) hij (by simpa using hj)
    rw [lt_cf, getElem!_pos d i (by simpa using hi), getElem!_pos d j (by simpa using hj)] at this
    simp at this
    simpa using this
  exact (h1.and h2).imp fun {x y} h => by have := h.1; have := h.2; omega
theorem sort_locks {w : World} {g cap : Nat} {r : List E2} (hr : Rw w 31 g cap r) (h12 : r.length ≤ 12) (hn : r.Pairwise (fun x y => x.a ≠ y.a)) :
    Calls Try.prog 50 #[.slice (some ⟨g, 0, none⟩) r.length cap, .func (.func 51) #[] #[]] w fun e w' => e = .returned (.tuple #[]) ∧ ∃ r' : List E2, r'.length = r.length ∧ r'.Perm r ∧ Asc r' ∧ Rw w' 31 g cap r' ∧ w.grownBy w' (some g) := by
  have eg : ∀ args w, (callFunc 51 args).run Try.prog w = .ok (.enter 51 args) w := enters_of Try.func51 (by kernel_rfl) rfl
  have h := Try.sortK_small encW (fun _ => rfl) (fun x v hv => by simp [encW] at hv; rcases hv with rfl | rfl <;> rfl) cfW 51 #[] swo_cf g 0 cap r.toArray w eg (cmp_lays g 0 _ w) (holds_rw hr) hr.lt (by simpa using h12)
  have e0 : r.toArray.size = r.length := by simp
  rw [e0] at h
  refine h.mono ?_
  rintro e w' ⟨he, d', n, os, hp, hs, rfl⟩
  obtain ⟨cur, h1, h2, h3, h4, h5⟩ := hr
  obtain ⟨cur', hc', hs'⟩ := heap_sort (n := n) (d := d') (os := os) h1
  have hz : d'.size = r.length := by have := hp.1; simpa using this
  have hH := holdsK_sortWorldK_c encW 2 w g 0 r.toArray d' n os (holds_rw ⟨cur, h1, h2, h3, h4, h5⟩) (Array.getElem?_eq_some_iff.1 h1).1 (by simpa using hz)
  have hpm : d'.toList.Perm r := by
    have := hp.2.2
    rw [← hz] at this
    have e2 : (r.toArray.extract 0 d'.size).toList = r := by rw [hz]; simp
    simp only [Array.extract_size] at this
    rw [e2] at this
    exact this
  refine ⟨he, d'.toList, by simpa using hz, hpm, sorted_asc hpm (by rw [hz]; simpa using hs) hn, rw_of_cells hc' (by rw [hs', h4]) (by simpa [hz] using h2) h3 (at_sort hH), grown_sort w g n d' os⟩
theorem own_gr {w w' : World} {base n size : Nat} {e : TypeId} {v : Value} {xs : List Value} {row : Option Nat} (h : w.ownsRow base e size v n xs) (hg : w.grownBy w' row) (hne : ∀ g, v.ownBlock = some g → some g ≠ row) : w'.ownsRow base e size v n xs :=
  ⟨h.1, by
    rcases h.2 with h0 | ⟨g, cap, cur, e1, h1, h2, h3⟩
    · exact .inl h0
    · exact .inr ⟨g, cap, cur, e1, h1, (hg.block g (Array.getElem?_eq_some_iff.1 h2).1 (hne g (by rw [e1]; rfl))).trans h2, h3⟩⟩
theorem iter_ne {w : World} {P : Program} {k e : TypeId} {R : Value → Option (DataW Unit × List MemPlace)} {b r n base m size : Nat} {D : DataW Unit} {left : Lit → Bool} {cnt : Nat} {v : Value} {xs : List Value} (h : w.ranges P k R b r n D left cnt) (ho : w.ownsRow base e size v m xs) : ∀ g, v.ownBlock = some g → g ≠ r := by
  obtain ⟨es, clock, since, seen, c0, hb, F, hs, hD, hr, rest⟩ := h
  intro g hg e1
  subst e1
  rcases ho.2 with ⟨h0, _⟩ | ⟨g', cap, cur, e2, _, h2, _⟩
  · rw [h0] at hg; simp [Value.ownBlock] at hg
  · rw [e2] at hg
    simp [Value.ownBlock] at hg
    subst hg
    rw [hr] at h2
    cases h2
/-! the table -/
/-- the table lies at tb, its map at m -/
structure LT (w : World) (base tb m n : Nat) (D : DataW Unit) : Prop where
  lo : base ≤ tb
  lm : base ≤ m
  ne : m ≠ tb
  row : w.heap[tb]? = some (.cells #[.int .i32 0, .int .u32 0, .map (some m)] 76 (0, 0))
  own : w.ownsMap Try.prog 3 (plainElem (H := Unit) Try.prog 3) m n D
theorem tb_cells {w : World} {b : Nat} {x y z : Value} {T : TypeId} (h : w.heap[b]? = some (.cells #[x, y, z] T (0, 0))) :
    w.cell? ⟨b, 0, none⟩ = some x ∧ w.cell? ⟨b, 1, none⟩ = some y ∧ w.cell? ⟨b, 2, none⟩ = some z ∧ w.frozen? ⟨b, 0, none⟩ = false := by
  refine ⟨?_, ?_, ?_, ?_⟩ <;> simp [World.cell?, World.frozen?, h]
theorem tb_set {w : World} {b : Nat} {x y z v : Value} {T : TypeId} (h : w.heap[b]? = some (.cells #[x, y, z] T (0, 0))) : (w.setCell ⟨b, 0, none⟩ v).heap[b]? = some (.cells #[v, y, z] T (0, 0)) := by
  rw [heap_setCell_same w b 0 _ T v h]; rfl
theorem tb_lt {w : World} {b : Nat} {o : Obj} (h : w.heap[b]? = some o) : b < w.heap.size := by
  rcases Nat.lt_or_ge b w.heap.size with h9 | h9
  · exact h9
  · rw [Array.getElem?_eq_none h9] at h; cases h
theorem wf_of {y : E2} (h : (0 ≤ y.a ∧ y.a ≤ 5) ∧ (1 ≤ y.b ∧ y.b ≤ 9)) : (Lit.int .i64 y.a).wf = true ∧ (Lit.int .i64 y.b).wf = true := by
  obtain ⟨⟨h1, h2⟩, h3, h4⟩ := h
  exact ⟨WalkArith.wf_i64 (by omega), WalkArith.wf_i64 (by omega)⟩
theorem wf_ko {k o : Int} (h : vers.In 0 5 k = true) (h2 : vers.In 1 9 o = true) : (Lit.int .i64 k).wf = true ∧ (Lit.int .i64 o).wf = true := wf_of (y := ⟨k, o⟩) ⟨vers.in_yes h, vers.in_yes h2⟩
set_option maxRecDepth 100000 in
set_option maxHeartbeats 1600000 in
theorem impl_table {w : World} {B n c : Nat} {A : Option Addr} {Q : List E2} (hn : n ≤ 1048576) (h1 : Vs w B A n Q) (hwf : ∀ (k : Nat) (y : E2), Q[k]? = some y → (Lit.int .i64 y.a).wf = true ∧ (Lit.int .i64 y.b).wf = true) (hB : B ≤ w.heap.size) :
    Calls Try.prog 36 #[.slice A n c] w fun e w' => ∃ tb D, e = .returned (.pointer (some ⟨tb, 0, none⟩)) ∧ LT w' w.heap.size tb w.heap.size n D ∧ MI D (mf Q) ∧ Below w.heap.size w w' := by
  have H1 := Lib.hid h1
  have hln := h1.1
  have HW := Lib.hid hwf
  have hmm := fun W => run_makeMap_hint (P := Try.prog) 67 3 3 Try.underlying67 ((n : Int) + 1) W (by omega) (by omega)
  clear h1 hwf
  go_enter Try.func36, Try.ntmps36
  go_wp2_with fail
  clear hmm
  go_loopw [5, 12] (fun _ i wr => ∃ (k : Nat) (D : DataW Unit), k ≤ n ∧ i = .int .i64 k ∧ wr.ownsMap Try.prog 3 (plainElem (H := Unit) Try.prog 3) w.heap.size k D ∧ MI D (mf (Q.take k)) ∧ Below w.heap.size w wr ∧ w.heap.size < wr.heap.size) (fun _ i _ => n - (intOf i).toNat)
  case atStart => exact ⟨0, .map [], by omega, rfl, World.ownsMap_made _ _ _ _, by simpa [mf] using MI.empty, (Below.refl _ _).alloc (Nat.le_refl _) _, by simp⟩
  case round =>
    obtain ⟨k, D, hk, rfl, hown, hmi, hb, hsm⟩ := hrel
    have OW := Lib.hid hown
    have MW := Lib.hid hmi
    have HB := Lib.hid hb
    clear hown hmi hb
    by_cases hlt : k < n
    · obtain ⟨b, o, y, rfl, hbB, hx, a0, a1⟩ := (H1.out.below (below_le HB.out hB)).at_ hlt
      have HX := Lib.hid hx
      have hsz := HB.out.size
      obtain ⟨wa, wb⟩ := HW.out k y hx
      have hkey := keyOf_int_mk (P := Try.prog) (k := 3) Try.underlying3 wa
      clear hx
      go_wp2_with (first | (at_mapUpdate; refine wpList_mapUpdate_own _ rfl _ _ _ 67 rfl 3 3 law_i Try.underlying67 _ w.heap.size k _ rfl (OW.out.alloc _) (by unfold maxLen; omega) _ _ _ rfl rfl hkey _ [] (plainElem_int Try.underlying3 wb) ?_; intro w2 hown2 hg2; go_frame) | fail)
      have hb2 : Below w.heap.size w w2 := (HB.out.alloc hsz _).grown hg2 (by simp; omega) (fun j hj => by cases hj; exact Nat.le_refl _)
      have hs2 : w.heap.size < w2.heap.size := by have := hg2.size; simp at this; omega
      have OW2 := Lib.hid hown2
      have MW2 : Hid (MI _ (mf (Q.take (k + 1)))) := Lib.hid (by rw [mf_step HX.out]; exact MW.out.put y.a y.b)
      clear hown2 hg2 a0 a1 hkey wa wb
      go_roundw
      case rel => exact ⟨k + 1, _, by omega, by go_num, OW2.out, MW2.out, hb2, hs2⟩
      case measure => simp [intOf]; omega
    · obtain rfl : n = k := by omega
      go_wp2_with fail
      go_ret
      exact ⟨_, D, rfl, ⟨HB.out.size, Nat.le_refl _, by omega, heap_alloc_new wr _, OW.out.alloc _⟩, by have := MW.out; rw [List.take_of_length_le (by omega)] at this; exact this, HB.out.alloc HB.out.size _⟩
/-- what acquire answers -/
def acqB (f : Int → Option Int) (key o : Int) : Bool := match f key with | none => true | some u => decide (u = o)
def acqF (f : Int → Option Int) (key o : Int) : Int → Option Int := match f key with | none => upd f key o | some _ => f
theorem LT.locked {w : World} {base tb m n : Nat} {D : DataW Unit} (h : LT w base tb m n D) : (w.setCell ⟨tb, 0, none⟩ (.int .i32 1)).heap[tb]? = some (.cells #[.int .i32 1, .int .u32 0, .map (some m)] 76 (0, 0)) := tb_set h.row
theorem zero_i : ∀ w : World, (zeroValue 3).run Try.prog w = .ok (.int .i64 0) w := fun _ => by kernel_rfl
set_option maxRecDepth 100000 in
set_option maxHeartbeats 1600000 in
theorem impl_acquire {w : World} {base tb m n : Nat} {D : DataW Unit} {f : Int → Option Int} (key o : Int) (h : LT w base tb m n D) (hm : MI D f) (hn : n < 1048576) (hwk : (Lit.int .i64 key).wf = true) (hwo : (Lit.int .i64 o).wf = true) (hbase : base ≤ w.heap.size) :
    Calls Try.prog 37 #[.pointer (some ⟨tb, 0, none⟩), .int .i64 key, .int .i64 o] w fun e w' => e = .returned (.bool (acqB f key o)) ∧ (∃ D' n', n' ≤ n + 1 ∧ LT w' base tb m n' D' ∧ MI D' (acqF f key o)) ∧ Below base w w' := by
  have HL := Lib.hid h
  have HM := Lib.hid hm
  obtain ⟨c0, c1, c2, z0⟩ := tb_cells h.row
  obtain ⟨d0, d1, d2, y0⟩ := tb_cells h.locked
  have hown1 := h.own.setCell (a := ⟨tb, 0, none⟩) h.ne (.int .i32 1)
  have hkey := keyOf_int_mk (P := Try.prog) (k := 3) Try.underlying3 hwk
  have hhas := (hm.2 key).1
  have hat0 := (hm.2 key).2
  have HH := Lib.hid h.locked
  have hne := h.ne
  have htl := tb_lt h.row
  clear h hm
  cases hf : f key with
  | some u =>
    have hh : Go.Maps.has D (kl key) = true := by rw [hhas, hf]; rfl
    have hat := hat0 u (.lit (.int .i64 0)) hf
    have HF := Lib.hid hf
    clear hhas hat0 hf
    go_enter_defers Try.func37, Try.ntmps37
    by_cases hu : u = o
    · have t : (u == o) = true := by simpa using hu
      have HU := Lib.hid hu
      clear hu
      go_wp2_with (first
        | (go_at_call 48; refine (lock_free muLib ⟨tb, 0, none⟩ _ c0 z0).mono ?_; rintro e w' ⟨rfl, rfl⟩)
        | (at_lookup; refine wpList_lookup_own_ok_int _ rfl _ _ 67 rfl 3 3 .i64 law_i Try.underlying67 Try.underlying3 (zero_i _) m n D rfl hown1 _ _ rfl hkey ?_; intro c hc hwc; rw [hat] at hc; obtain rfl : u = c := by { injection hc with hc; injection hc with _ hc }; rw [hh]))
      refine leaves_cons (f := 49) (args := #[.pointer (some ⟨tb, 0, none⟩)]) (by simp) (by simp [go_sem]) ?_
      refine (unlock_deferred muLib ⟨tb, 0, none⟩ .returning _ d0 y0).mono ?_
      rintro e u' w'' ⟨rfl, rfl, rfl⟩
      exact ⟨_, results_tmp rfl _ _ _, by simp [acqB, HF.out, HU.out], ⟨D, n, by omega, ⟨HL.out.lo, HL.out.lm, hne, tb_set HH.out, hown1.setCell (a := ⟨tb, 0, none⟩) hne _⟩, by unfold acqF; rw [HF.out]; exact HM.out⟩, ((Below.refl base w).setCell HL.out.lo _).setCell HL.out.lo _⟩
    · have t : (u == o) = false := by simpa using hu
      have HU := Lib.hid hu
      clear hu
      go_wp2_with (first
        | (go_at_call 48; refine (lock_free muLib ⟨tb, 0, none⟩ _ c0 z0).mono ?_; rintro e w' ⟨rfl, rfl⟩)
        | (at_lookup; refine wpList_lookup_own_ok_int _ rfl _ _ 67 rfl 3 3 .i64 law_i Try.underlying67 Try.underlying3 (zero_i _) m n D rfl hown1 _ _ rfl hkey ?_; intro c hc hwc; rw [hat] at hc; obtain rfl : u = c := by { injection hc with hc; injection hc with _ hc }; rw [hh]))
      refine leaves_cons (f := 49) (args := #[.pointer (some ⟨tb, 0, none⟩)]) (by simp) (by simp [go_sem]) ?_
      refine (unlock_deferred muLib ⟨tb, 0, none⟩ .returning _ d0 y0).mono ?_
      rintro e u' w'' ⟨rfl, rfl, rfl⟩
      exact ⟨_, results_tmp rfl _ _ _, by simp [acqB, HF.out, HU.out], ⟨D, n, by omega, ⟨HL.out.lo, HL.out.lm, hne, tb_set HH.out, hown1.setCell (a := ⟨tb, 0, none⟩) hne _⟩, by unfold acqF; rw [HF.out]; exact HM.out⟩, ((Below.refl base w).setCell HL.out.lo _).setCell HL.out.lo _⟩
  | none =>
    have hh : Go.Maps.has D (kl key) = false := by rw [hhas, hf]; rfl
    have HF := Lib.hid hf
    clear hhas hat0 hf
    go_enter_defers Try.func37, Try.ntmps37
    go_wp2_with (first
      | (go_at_call 48; refine (lock_free muLib ⟨tb, 0, none⟩ _ c0 z0).mono ?_; rintro e w' ⟨rfl, rfl⟩)
      | (at_lookup; refine wpList_lookup_own_ok_int _ rfl _ _ 67 rfl 3 3 .i64 law_i Try.underlying67 Try.underlying3 (zero_i _) m n D rfl hown1 _ _ rfl hkey ?_; intro c hc hwc; rw [hh])
      | (at_mapUpdate; refine wpList_mapUpdate_own _ rfl _ _ _ 67 rfl 3 3 law_i Try.underlying67 _ m n _ rfl hown1 (by unfold maxLen; omega) _ _ _ rfl rfl hkey _ [] (plainElem_int Try.underlying3 hwo) ?_; intro w2 hown2 hg2))
    have hrow2 : w2.heap[tb]? = some (.cells #[.int .i32 1, .int .u32 0, .map (some m)] 76 (0, 0)) := (hg2.block tb (by simpa [World.setCell] using htl) (fun e => hne (Option.some.inj e).symm)).trans HH.out
    obtain ⟨e0, e1, e2, x0⟩ := tb_cells hrow2
    have hb2 : Below base w w2 := ((Below.refl base w).setCell HL.out.lo _).grown hg2 (by simpa [World.setCell] using hbase) (fun j hj => by cases hj; exact HL.out.lm)
    refine leaves_cons (f := 49) (args := #[.pointer (some ⟨tb, 0, none⟩)]) (by simp) (by simp [go_sem]) ?_
    refine (unlock_deferred muLib ⟨tb, 0, none⟩ .returning _ e0 x0).mono ?_
    rintro e u' w'' ⟨rfl, rfl, rfl⟩
    exact ⟨_, results_tmp rfl _ _ _, by simp [acqB, HF.out], ⟨_, n + 1, Nat.le_refl _, ⟨HL.out.lo, HL.out.lm, hne, tb_set hrow2, hown2.setCell (a := ⟨tb, 0, none⟩) hne _⟩, by unfold acqF; rw [HF.out]; exact HM.out.put key o⟩, hb2.setCell HL.out.lo _⟩
set_option maxRecDepth 100000 in
theorem off_gr {q : Nat} {W W' : World} (ho : Go.Proofs.Ythbbpfgjbidbhaa.el2.Off q W W') : W.grownBy W' (some q) := ⟨ho.os, ho.tape, ho.output, by rw [ho.size]; exact Nat.le_refl _, fun k _ hk => ho.block k (fun e => hk (by rw [e]))⟩
theorem own_more {w : World} {base base' n size : Nat} {e : TypeId} {v : Value} {xs : List Value} (h : w.ownsRow base e size v n xs) (hb : base' ≤ base) : w.ownsRow base' e size v n xs :=
  ⟨h.1, h.2.imp id fun ⟨g, cap, cur, e1, h1, h2, h3⟩ => ⟨g, cap, cur, e1, Nat.le_trans hb h1, h2, h3⟩⟩
set_option maxRecDepth 100000 in
set_option maxHeartbeats 3200000 in
theorem impl_sorted {w : World} {base tb m n : Nat} {D : DataW Unit} {f : Int → Option Int} (h : LT w base tb m n D) (h2 : MI D f) (hn : n ≤ 12) (hbase : base ≤ w.heap.size) :
    Calls Try.prog 38 #[.pointer (some ⟨tb, 0, none⟩)] w fun e w' => ∃ (A : Option Addr) (c : Nat) (r : List E2), e = .returned (.slice A r.length c) ∧ w'.ownsRow w.heap.size 31 2 (.slice A r.length c) r.length (flat r) ∧ Asc r ∧ (∀ x u, f x = some u ↔ (⟨x, u⟩ : E2) ∈ r) ∧ Below base w w' := by
  obtain ⟨c0, c1, c2, z0⟩ := tb_cells h.row
  have HLO := Lib.hid h.lo
  have ROW := Lib.hid h.locked
  have htl := tb_lt h.row
  have HOW := Lib.hid (h.own.setCell (a := ⟨tb, 0, none⟩) h.ne (.int .i32 1))
  have H2 := Lib.hid h2
  have HBW : Hid (Below base w (w.setCell ⟨tb, 0, none⟩ (.int .i32 1))) := Lib.hid ((Below.refl base w).setCell h.lo _)
  have hsz0 : (w.setCell ⟨tb, 0, none⟩ (.int .i32 1)).heap.size = w.heap.size := by simp [World.setCell]
  have hmne := h.ne
  clear h h2
  obtain ⟨i0, hi, hz, hs, hby⟩ := info_parts info_lk
  have HI := Lib.hid hi
  have HZ := Lib.hid hz
  have HS := Lib.hid hs
  have HBY := Lib.hid hby
  clear hi hz hs hby
  go_enter_defers Try.func38, Try.ntmps38
  go_wp2_with fail
  refine (lock_free muLib ⟨tb, 0, none⟩ _ c0 z0).mono ?_
  rintro e w' ⟨rfl, rfl⟩
  generalize w.setCell ⟨tb, 0, none⟩ (.int .i32 1) = W0 at ROW HOW HBW hsz0 ⊢
  have H1 := HOW
  have hbl := H1.out.lt
  have hsd := H1.out.size_le
  have htl0 : tb < W0.heap.size := by omega
  have HSZ := Lib.hid hsz0
  clear hsz0
  clear c0 c1 c2 z0 htl
  obtain ⟨b, hbm⟩ : ∃ b, b = m := ⟨_, rfl⟩
  rw [← hbm] at ROW H1 hbl hmne
  clear hbm HOW
  obtain ⟨d0, d1, d2, y0⟩ := tb_cells ROW.out
  obtain ⟨m, hm⟩ : ∃ m, Go.Maps.size D = m := ⟨_, rfl⟩
  rw [hm] at hsd
  have HM := Lib.hid hm
  obtain ⟨W1, hmk, hE, hg⟩ := run_make_own (P := Try.prog) W0 W0.heap.size 24 31 i0 _ 2 Try.underlying24 HI.out HZ.out HS.out .i64 .i64 m (by rw [HBY.out]; omega) (by unfold maxLen; omega) (Nat.le_refl _)
  have hb1 : Below W0.heap.size W0 W1 := (Below.refl _ _).grown hg (Nat.le_refl _) (fun q hq => by cases hq)
  have hown1 := H1.out.kept hg (by simp)
  have hrow1 := (hb1.block tb htl0).trans ROW.out
  obtain ⟨g0, g1, g2, v0⟩ := tb_cells hrow1
  have E1 := Lib.hid hE
  have HB1 := Lib.hid hb1
  have O1 := Lib.hid hown1
  clear hE hg hb1 hown1 hm d0 d1 y0 g0 g1 v0 hrow1
  go_wp2_with (first
    | (at_len; refine wpList_len_own _ rfl _ 67 rfl 3 3 Try.underlying67 _ b n D rfl H1.out ?_; rw [HM.out])
    | (at_range; refine wpList_range_own _ rfl _ 67 rfl 3 3 law_i Try.underlying67 _ b n _ rfl O1.out ?_; intro w0 hrg0 hg0 hs0)
    | fail)
  go_frame
  have R0 := Lib.hid hrg0
  have E0 : Hid (w0.ownsRow W0.heap.size 31 2 (.slice (some ⟨W0.heap.size, 0, none⟩) 0 m) 0 (flat [])) := Lib.hid (own_gr E1.out hg0 (fun g _ => by simp))
  have B0 : Hid (Below W0.heap.size W0 w0) := Lib.hid (HB1.out.grown hg0 HB1.out.size (fun j hj => by cases hj))
  have hmn : Go.Maps.size D ≤ n := by rw [HM.out]; exact hsd
  clear hmk hrg0 hg0 hs0
  go_loopw [3, 4, 5] (fun v _ _ wr => ∃ (left : Lit → Bool) (cnt : Nat) (r : List E2) (g c' : Nat), v = .slice (some ⟨g, 0, none⟩) r.length c' ∧ wr.ranges Try.prog 3 (plainElem (H := Unit) Try.prog 3) b W1.heap.size n D left cnt ∧ (∀ k, left k = true → Go.Maps.has D k = true) ∧ Got f left r ∧ r.length + cnt ≤ n ∧ wr.ownsRow W0.heap.size 31 2 (.slice (some ⟨g, 0, none⟩) r.length c') r.length (flat r) ∧ Below W0.heap.size W0 wr) (fun _ _ _ wr => wr.rangeLeft b W1.heap.size)
  case atStart => exact ⟨_, _, [], W0.heap.size, m, rfl, R0.out, fun k h => h, Got.start H2.out, by simp; exact hmn, E0.out, B0.out⟩
  case round =>
    obtain ⟨left, cnt, r, g, c', rfl, hrg, hle, hgot, hcn, hO, hb⟩ := hrel
    have HR := Lib.hid hrg
    have HLE := Lib.hid hle
    have HG := Lib.hid hgot
    have OW := Lib.hid hO
    have HB := Lib.hid hb
    have hsz := hb.size
    clear hrg hle hgot hO hb
    go_wp2_with (first | (at_next; refine wpList_next_ranges_ii _ rfl _ rfl 3 3 .i64 .i64 law_i Try.underlying3 Try.underlying3 b W1.heap.size n _ _ _ rfl HR.out ?_ ?_) | fail)
    · intro hc0 hl0
      have HL0 := Lib.hid hl0
      clear hl0
      obtain ⟨hl, ⟨e1, _⟩ | ⟨g', cap, e1, hgb, hrw⟩⟩ := own_rw OW.out
      · injection e1 with e1; cases e1
      injection e1 with e1 e2 e3
      injection e1 with e1
      injection e1 with e1
      subst e1 e3
      go_wp2_with fail
      have hsort := sort_locks hrw (by omega) HG.out.1
      refine hsort.mono ?_
      rintro e W5 ⟨rfl, r', hl', hp', ha', hr', hg'⟩
      have HB5 : Hid (Below W0.heap.size W0 W5) := Lib.hid (HB.out.grown hg' hsz (fun j hj => by cases hj; exact hgb))
      have HO5 := Lib.hid (hr'.own hgb)
      have HA := Lib.hid ha'
      have HALL : Hid (∀ x u, f x = some u ↔ (⟨x, u⟩ : E2) ∈ r') := Lib.hid fun x u => (HG.out.all HL0.out x u).trans hp'.mem_iff.symm
      clear hsort hp' ha' hr' hg'
      go_wp2_with fail
      have hsz9 := HSZ.out
      have hrow5 := (HB5.out.block tb (by omega)).trans ROW.out
      obtain ⟨e0, e1, e2, x0⟩ := tb_cells hrow5
      refine leaves_cons (f := 49) (args := #[.pointer (some ⟨tb, 0, none⟩)]) (by simp) (by simp [go_sem]) ?_
      refine (unlock_deferred muLib ⟨tb, 0, none⟩ .returning _ e0 x0).mono ?_
      rintro e u' w'' ⟨rfl, rfl, rfl⟩
      refine ⟨_, results_tmp rfl _ _ _, _, _, r', (by rw [hl']; rfl), ?_, HA.out, HALL.out, (HBW.out.trans (HB5.out.mono (by omega))).setCell HLO.out _⟩
      have ho5 := HO5.out
      exact own_gr (own_more ho5 (by omega)) (off_gr ((Off.refl tb W5).setCell (p := ⟨tb, 0, none⟩) rfl (.int .i32 0))) (fun g hg e => by have := (ho5.lt g hg).1; injection e with e; omega)
    · intro x c w1 cnt1 hwx hwc hlx hat hrg1 hlt hg1 hs1 hen
      have hO1 := own_gr OW.out hg1 (fun j hj => by
        have h1 := iter_ne HR.out OW.out j hj
        intro e; injection e with e; exact h1 e)
      have hb1 := HB.out.grown hg1 hsz (fun j hj => by cases hj; exact HB1.out.size)
      have hgt := HG.out.step H2.out hlx HLE.out hat
      have hO2 := own_keep hO1 (new1 w1 (.cells #[.int .i64 x, .int .i64 c] 31))
      have hone : Vs (w1.alloc (.cells #[.int .i64 x, .int .i64 c] 31)) (w1.heap.size + 1) (some ⟨w1.heap.size, 0, none⟩) 1 [⟨x, c⟩] := one_vs (boxed w1 ⟨x, c⟩ 31)
      obtain ⟨v', w4, hr, ho4, hg4⟩ := run_append_e2 (P := Try.prog) (w1.alloc (.cells #[.int .i64 x, .int .i64 c] 31)) 24 24 31 i0 _ Try.underlying24 HI.out HZ.out HS.out HBY.out rfl hO2 hone (c := 1) (by omega) (by have := hb1.size; simp; omega)
      have hgb : W0.heap.size ≤ g := (hO2.lt g rfl).1
      have hgr : g ≠ W1.heap.size := iter_ne HR.out OW.out g rfl
      have hrg4 := (hrg1.alloc (.cells #[.int .i64 x, .int .i64 c] 31)).kept hg4 (fun e => by have e' : b = g := (by simpa [Value.ownBlock] using e); omega) (fun e => by have e' : W1.heap.size = g := (by simpa [Value.ownBlock] using e); exact hgr e'.symm)
      have hb4 : Below W0.heap.size W0 w4 := (hb1.alloc hb1.size _).grown hg4 (by have := hb1.size; simp; omega) (fun j hj => by cases hj; exact hgb)
      obtain ⟨hl4, ⟨e1, e2⟩ | ⟨g5, c5, rfl, hgb5, hrw5⟩⟩ := own_rw ho4
      · simp at e2
      have HR4 := Lib.hid hrg4
      have HB4 := Lib.hid hb4
      have HO4 := Lib.hid ho4
      have HGT := Lib.hid hgt
      have HLT := Lib.hid hlt
      have HLE4 : Hid (∀ k, (fun z => left z && !z.sameKey (kl x)) k = true → Go.Maps.has D k = true) := Lib.hid (left_le HLE.out)
      clear hO1 hb1 hgt hO2 hone hrg1 hg1 hs1 hlx hat ho4 hg4 hrg4 hb4 hlt hrw5
      go_wp2_with (first | (at_builtin; refine Lib.wpList_append_run _ rfl _ _ 24 24 rfl _ _ rfl rfl _ _ hr ?_) | fail)
      clear hen hr
      go_roundw
      case rel => exact ⟨_, cnt1, r ++ [⟨x, c⟩], g5, c5, by rw [List.length_append]; rfl, HR4.out, HLE4.out, HGT.out, by have := HLT.out; rw [List.length_append]; simp; omega, by rw [List.length_append]; exact HO4.out, HB4.out⟩
      case measure => rw [HR4.out.left_eq, HR.out.left_eq]; exact HLT.out
end Go.Proofs.Ythbbpfgjbidbhaa.lkt
