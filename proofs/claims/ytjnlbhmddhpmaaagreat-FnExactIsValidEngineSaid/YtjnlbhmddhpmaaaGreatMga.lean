/- areUsersActive and IsValidEngine of the program: what they answer. -/
import Derived.Test.YtjnlbhmddhpmaaaGreatSt
import Derived.WalkKit
import Derived.ProofKit
import Derived.Below
import Derived.Lib.Hide
import Derived.LoopTactic
import Derived.Outline
import Derived.IntWalk
import Derived.Deep.OwnRows
import Derived.Laws.MakeOwn
import Derived.Laws.Entries
import Derived.Laws.AppendOwn
import Derived.Deep.AppendLies
import Derived.Test.YtjnlbhmddhpmaaaGreatTr
import Derived.Test.YtjnlbhmddhpmaaaGreatVal
import Derived.Test.YtjnlbhmddhpmaaaGreatLast
import Derived.Test.YtjnlbhmddhpmaaaGreatLk
import Derived.Test.YtjnlbhmddhpmaaaGreatWt
import Derived.Test.YtjnlbhmddhpmaaaGreatTv
import Derived.Test.YtjnlbhmddhpmaaaGreatRx
import Derived.Test.YtjnlbhmddhpmaaaGreatSeq
import Derived.Test.YtjnlbhmddhpmaaaGreatEnt
import Derived.Test.YtjnlbhmddhpmaaaGreatEit
import Derived.Test.YtjnlbhmddhpmaaaGreatRq
import Derived.Shelf.Abstract
import Derived.Test.YtjnlbhmddhpmaaaGreatFnd
import Derived.Deep.QuietTactic
import Derived.BigQuiet
import Derived.Test.YtjnlbhmddhpmaaaGreatCm
import Derived.Test.YtjnlbhmddhpmaaaGreatAp
import Derived.Laws.CopyRow
import Derived.Test.YtjnlbhmddhpmaaaGreatCl
import Derived.Test.YtjnlbhmddhpmaaaGreatRWait
import Derived.Test.YtjnlbhmddhpmaaaGreatLc
import Derived.Deep.RegionLaw
import Derived.Lib.AppendZerosOnto
import Derived.Lib.Overlaps
import Derived.Test.YtjnlbhmddhpmaaaGreatOwi
import Derived.Test.YtjnlbhmddhpmaaaGreatBx
import Derived.WalkMore
import Derived.ScopeJumps
/- The program's and the model's NewStore: what each answers; nothing that was there is written. -/
namespace Go.Proofs.YtjnlbhmddhpmaaaGreat.new
open Go.ChangeShapes Go.WideShapes Go.ChangeAt Go.RowKit
open Go.Proofs.YtjnlbhmddhpmaaaGreat.vers Go.Proofs.YtjnlbhmddhpmaaaGreat.sl Go.Proofs.YtjnlbhmddhpmaaaGreat.ch Go.Proofs.YtjnlbhmddhpmaaaGreat.st
set_option linter.unusedVariables false
set_option linter.unusedSimpArgs false
def v0 : Ver := ⟨0, -1, 0, 0, 1000⟩
def ns : List (List Ver) := List.replicate 6 [v0]
theorem ns_len : ns.length = 6 := rfl
theorem ns_cnt : cnt ns = 6 := rfl
theorem ns_at {k : Nat} (h : k < 6) : ns[k]? = some [v0] := by
  have : k = 0 ∨ k = 1 ∨ k = 2 ∨ k = 3 ∨ k = 4 ∨ k = 5 := by omega
  rcases this with rfl | rfl | rfl | rfl | rfl | rfl <;> rfl
theorem make6 (w : World) : (Instr.makeSlice 32 (.int .i64 6) (.int .i64 6)).run Tryz.prog w = .ok (.slice (some ⟨w.heap.size, 0, none⟩) 6 6) (w.alloc (.cells (madeCells #[.slice none 0 0] 6) 79)) := make_rows 6 (by omega) w
theorem row_new (w : World) : Row (w.alloc (.cells #[.int .i64 0, .int .i64 (-1), .int .i64 0, .int .i64 0, .int .i64 1000] 81)) w.heap.size 1 [v0] 1 :=
  World.rowIs_alloc w #[.int .i64 0, .int .i64 (-1), .int .i64 0, .int .i64 0, .int .i64 1000] 81 _ (fun i hi => by
    have : i = 0 ∨ i = 1 ∨ i = 2 ∨ i = 3 ∨ i = 4 := by simp at hi; omega
    rcases this with rfl | rfl | rfl | rfl | rfl <;> rfl)
/-! the model's: appended one by one -/
theorem cell_one2 (w : World) (o : Obj) (v : Value) (t : TypeId) : ∀ (j : Nat) (u : Value), [v][j]? = some u → ((w.alloc o).alloc (.cells #[v] t)).cell? ((⟨w.heap.size + 1, 0, none⟩ : Addr).add j) = some u := by
  intro j u hu
  match j, hu with
  | 0, hu =>
    simp only [List.getElem?_cons_zero, Option.some.injEq] at hu
    rw [← hu]
    have := one_cell (w.alloc o) v t
    rw [World.size_alloc] at this
    exact this
  | j + 1, hu => simp at hu
theorem one_slice (A : Option Addr) (n c : Nat) : ∀ u ∈ [Value.slice A n c], u.oneCell' = true := by
  intro u hu
  simp only [List.mem_singleton] at hu
  rw [hu]; rfl
/-- the rows that the list of slices names -/
def Rows1 (B : Nat) (w : World) (vals : List Value) : Prop := ∀ u ∈ vals, ∃ M, u = .slice (some ⟨M, 0, none⟩) 1 1 ∧ Row w M 1 [v0] 1 ∧ B ≤ M
theorem Rows1.keep {B : Nat} {w w' : World} {vals : List Value} (h : Rows1 B w vals) (hb : ∀ M, B ≤ M → w'.heap[M]? = w.heap[M]?) : Rows1 B w' vals := fun u hu => by
  obtain ⟨M, h1, h2, h3⟩ := h u hu
  exact ⟨M, h1, World.rowIs.of_block h2 (hb M h3), h3⟩
/-- a row of versions is not the list's own row -/
theorem not_own {w : World} {B n : Nat} {v : Value} {xs : List Value} {M : Nat} (h : w.ownsRow B 79 1 v n xs) (hR : Row w M 1 [v0] 1) : v.ownBlock ≠ some M := by
  intro e
  obtain ⟨cur, hc, _, _⟩ := hR
  rcases h.2 with ⟨rfl, _⟩ | ⟨g, cap, cur', rfl, _, hgg, _⟩
  · simp [Value.ownBlock] at e
  · simp only [Value.ownBlock, Option.some.injEq] at e
    subst e
    rw [hc] at hgg
    simp at hgg
theorem own_rs {w : World} {B m : Nat} {v : Value} {vals : List Value} (ho : w.ownsRow B 79 1 v m vals) (hv : Rows1 B w vals) (hm : m = 6) : ∃ A c, v = .slice A 6 c ∧ Rs w w.heap.size A 6 ns := by
  subst hm
  obtain ⟨g, cap, rfl, _, hlt⟩ := ho.form (by omega)
  refine ⟨_, cap, rfl, rfl, fun _ => ⟨g, 0, rfl, hlt, fun k l hx => ?_⟩⟩
  have hk : k < 6 := lt_get hx
  rw [ns_at hk] at hx
  injection hx with hx
  subst hx
  have hlen : vals.length = 6 := by have := ho.1; omega
  have hg : vals[k]? = some (vals[k]'(by omega)) := List.getElem?_eq_getElem (by omega)
  obtain ⟨M, hu, hR, _⟩ := hv _ (List.getElem_mem (by omega : k < vals.length))
  rw [hu] at hg
  refine ⟨some ⟨M, 0, none⟩, 1, 1, ?_, by omega, (Row.vs hR rfl).more hR.lt⟩
  have := ho.cells (g := g) rfl k _ hg
  rw [← this]
  congr 1
  unfold Addr.add
  split <;> simp_all
theorem own_rs3 {w : World} {B : Nat} {A : Option Addr} {c : Nat} {vals : List Value} (ho : w.ownsRow B 79 1 (.slice A 6 c) 6 vals) (hv : Rows1 B w vals) : Rs w w.heap.size A 6 ns := by
  obtain ⟨A2, c2, h, hr⟩ := own_rs ho hv rfl
  injection h with e1 _ e2
  subst e1
  exact hr
theorem own_kept {w w2 : World} {B m : Nat} {v : Value} {vals : List Value} (h : w.ownsRow B 79 1 v m vals) (hs : w.heap.size ≤ w2.heap.size) (hk : ∀ q, B ≤ q → q < w.heap.size → w2.heap[q]? = w.heap[q]?) : w2.ownsRow B 79 1 v m vals :=
  ⟨h.1, h.2.imp id fun ⟨g, cap, cur, e, hb, hg, r⟩ => ⟨g, cap, cur, e, hb, (hk g hb (by
    rcases Nat.lt_or_ge g w.heap.size with h' | h'
    · exact h'
    · rw [Array.getElem?_eq_none h'] at hg; cases hg)).trans hg, r⟩⟩
theorem rows_kept {w w2 : World} {B : Nat} {vals : List Value} (h : Rows1 B w vals) (hk : ∀ q, B ≤ q → q < w.heap.size → w2.heap[q]? = w.heap[q]?) : Rows1 B w2 vals := fun u hu => by
  obtain ⟨M, h1, h2, h3⟩ := h u hu
  exact ⟨M, h1, World.rowIs.of_block h2 (hk M h3 h2.lt), h3⟩
end Go.Proofs.YtjnlbhmddhpmaaaGreat.new
/- Chapter 13, plain mathematics: an engine as a value, when it is valid; the IDs of its transactions. -/
namespace Go.Proofs.YtjnlbhmddhpmaaaGreat.en
open Go.Proofs.YtjnlbhmddhpmaaaGreat.el2 Go.Proofs.YtjnlbhmddhpmaaaGreat.tx Go.Proofs.YtjnlbhmddhpmaaaGreat.seq Go.Proofs.YtjnlbhmddhpmaaaGreat.tv Go.Proofs.YtjnlbhmddhpmaaaGreat.rx Go.Proofs.YtjnlbhmddhpmaaaGreat.last Go.Proofs.YtjnlbhmddhpmaaaGreat.mkr
open Go.Proofs.YtjnlbhmddhpmaaaGreat.lk (lkB)
open Go.Proofs.YtjnlbhmddhpmaaaGreat.wt (wtB)
open Go.Proofs.YtjnlbhmddhpmaaaGreat.vers (In)
open Go.Proofs.YtjnlbhmddhpmaaaGreat.sl (Ver)
open Go.Proofs.YtjnlbhmddhpmaaaGreat.val (stB)
open Go.Proofs.YtjnlbhmddhpmaaaGreat.new (ns)
set_option linter.unusedVariables false
set_option linter.unusedSimpArgs false
/-- an engine -/
structure En where
  cert : Bool
  C : List (List Ver)
  T : List Tr
  L : List E2
  W : List E2
  z : Int
/-- a transaction of a valid engine -/
noncomputable def okT (C : List (List Ver)) (z : Int) (t : Tr) : Bool := txB t.x t.R t.S && decide (t.x.b ≤ z) && decide (t.x.c ≤ z) && (!decide (t.x.t = 1) || rexB C t.x t.R t.S)
def folT (a b : Tr) : Bool := decide (a.x.i < b.x.i)
/-- the engine is valid -/
noncomputable def enB (e : En) : Bool :=
  stB e.C && lkB e.L && wtB e.W && In (lstS e.C) 999 e.z && decide (e.T.length ≤ 6) && sqB (okT e.C e.z) folT e.T && e.L.all (fun m => acT e.T m.b) && e.W.all (fun m => acT e.T m.a && acT e.T m.b)
def newE (c : Bool) : En := ⟨c, ns, [], [], [], 0⟩
end Go.Proofs.YtjnlbhmddhpmaaaGreat.en
/- Chapter 13, plain mathematics: the IDs of an engine's transactions, and a valid engine said in the program's order. -/
namespace Go.Proofs.YtjnlbhmddhpmaaaGreat.eid
open Go.Proofs.YtjnlbhmddhpmaaaGreat.el2 Go.Proofs.YtjnlbhmddhpmaaaGreat.tx Go.Proofs.YtjnlbhmddhpmaaaGreat.seq Go.Proofs.YtjnlbhmddhpmaaaGreat.tv Go.Proofs.YtjnlbhmddhpmaaaGreat.rx Go.Proofs.YtjnlbhmddhpmaaaGreat.last Go.Proofs.YtjnlbhmddhpmaaaGreat.mkr Go.Proofs.YtjnlbhmddhpmaaaGreat.en
open Go.Proofs.YtjnlbhmddhpmaaaGreat.lk (lkB)
open Go.Proofs.YtjnlbhmddhpmaaaGreat.wt (wtB)
open Go.Proofs.YtjnlbhmddhpmaaaGreat.vers (In)
open Go.Proofs.YtjnlbhmddhpmaaaGreat.sl (Ver)
open Go.Proofs.YtjnlbhmddhpmaaaGreat.val (stB)
set_option linter.unusedVariables false
set_option linter.unusedSimpArgs false
/-- the IDs rise -/
noncomputable def ascB (T : List Tr) : Bool := sqB (fun _ => true) folT T
theorem asc_lt {T : List Tr} (h : ascB T = true) : ∀ (d j : Nat) (t u : Tr), T[j]? = some t → T[j + d + 1]? = some u → t.x.i < u.x.i := by
  have hs := (sq_of h).2
  intro d
  induction d with
  | zero => intro j t u h1 h2; exact of_decide_eq_true (hs j t u h1 h2)
  | succ d ih =>
    intro j t u h1 h2
    have hl := lt_of_some h2
    have h3 : T[j + d + 1]? = some (T[j + d + 1]'(by omega)) := List.getElem?_eq_getElem (by omega)
    have a := ih j t _ h1 h3
    have b : _ < _ := of_decide_eq_true (hs (j + d + 1) _ u h3 h2)
    exact Int.lt_trans a b
theorem asc_one {T : List Tr} (h : ascB T = true) {j k : Nat} {t u : Tr} (hj : T[j]? = some t) (hk : T[k]? = some u) (e : t.x.i = u.x.i) : j = k := by
  rcases Nat.lt_trichotomy j k with q | q | q
  · have := asc_lt h (k - j - 1) j t u hj (by rw [show j + (k - j - 1) + 1 = k by omega]; exact hk); omega
  · exact q
  · have := asc_lt h (j - k - 1) k u t hk (by rw [show k + (j - k - 1) + 1 = j by omega]; exact hj); omega
theorem mem_ids {s i : Int} {T : List Tr} : i ∈ idsT s T ↔ ∃ (k : Nat) (t : Tr), T[k]? = some t ∧ t.x.t = s ∧ t.x.i = i := by
  unfold idsT
  simp only [List.mem_map, List.mem_filter, decide_eq_true_eq]
  constructor
  · rintro ⟨t, ⟨hm, h1⟩, h2⟩
    obtain ⟨k, hk, hkt⟩ := List.getElem_of_mem hm
    exact ⟨k, t, by rw [List.getElem?_eq_getElem hk, hkt], h1, h2⟩
  · rintro ⟨k, t, hk, h1, h2⟩
    exact ⟨t, ⟨List.mem_of_getElem? hk, h1⟩, h2⟩
/-- where the IDs rise, an ID is active exactly if it is among the IDs of the active ones -/
theorem act_ids {T : List Tr} (h : ascB T = true) (i : Int) : acT T i = decide (i ∈ idsT 1 T) := by
  apply Bool.eq_iff_iff.2
  rw [decide_eq_true_eq, mem_ids]
  simp only [acT, Bool.and_eq_true, decide_eq_true_eq]
  rcases fnd_cases i T with ⟨k, t, h1, h2, h3, h4⟩ | ⟨h1, h2⟩
  · rw [h4, Int.toNat_natCast, h1]
    constructor
    · rintro ⟨_, h5⟩
      exact ⟨k, t, h1, by simpa using h5, h2⟩
    · rintro ⟨k', t', h5, h6, h7⟩
      obtain rfl := asc_one h h1 h5 (by rw [h2, h7])
      rw [h1] at h5
      injection h5 with h5
      subst h5
      exact ⟨by omega, by simp [h6]⟩
  · rw [h2]
    constructor
    · rintro ⟨h5, _⟩; omega
    · rintro ⟨k, t, h5, _, h7⟩; exact absurd h7 (h1 k t h5)
/-- what speaks against a transaction -/
noncomputable def conB (C : List (List Ver)) (z : Int) (t : Tr) : Bool := !txB t.x t.R t.S || decide (z < t.x.b) || decide (z < t.x.c) || (decide (t.x.t = 1) && !rexB C t.x t.R t.S)
theorem con_ok (C : List (List Ver)) (z : Int) (t : Tr) : okT C z t = !conB C z t := by
  unfold okT conB
  have e1 : decide (t.x.b ≤ z) = !decide (z < t.x.b) := by rw [Bool.eq_iff_iff]; simp
  have e2 : decide (t.x.c ≤ z) = !decide (z < t.x.c) := by rw [Bool.eq_iff_iff]; simp
  rw [e1, e2]
  cases txB t.x t.R t.S <;> cases decide (z < t.x.b) <;> cases decide (z < t.x.c) <;> cases decide (t.x.t = 1) <;> cases rexB C t.x t.R t.S <;> rfl
noncomputable def usB (T : List Tr) (K X : List E2) : Bool := K.all (fun m => decide (m.b ∈ idsT 1 T)) && X.all fun m => decide (m.a ∈ idsT 1 T) && decide (m.b ∈ idsT 1 T)
noncomputable def artB (C : List (List Ver)) (T : List Tr) (z : Int) : Bool := decide (T.length ≤ 6) && ascB T && !T.any (conB C z)
theorem sq_split (C : List (List Ver)) (T : List Tr) (z : Int) : sqB (okT C z) folT T = (ascB T && !T.any (conB C z)) := by
  apply Bool.eq_iff_iff.2
  rw [Bool.and_eq_true]
  constructor
  · intro h
    have hs := sq_of h
    refine ⟨sq_yes ⟨fun _ _ _ => rfl, hs.2⟩, ?_⟩
    rw [Bool.not_eq_true', List.any_eq_false]
    intro t ht
    obtain ⟨k, hk, hkt⟩ := List.getElem_of_mem ht
    have := hs.1 k t (by rw [List.getElem?_eq_getElem hk, hkt])
    rw [con_ok, Bool.not_eq_true'] at this
    simp [this]
  · rintro ⟨h1, h2⟩
    refine sq_yes ⟨fun k t hk => ?_, (sq_of h1).2⟩
    rw [Bool.not_eq_true', List.any_eq_false] at h2
    rw [con_ok, Bool.not_eq_true']
    have := h2 t (List.mem_of_getElem? hk)
    simpa using this
theorem en_eq (e : En) : enB e = (stB e.C && In (lstS e.C) 999 e.z && artB e.C e.T e.z && lkB e.L && wtB e.W && usB e.T e.L e.W) := by
  unfold enB artB
  rw [sq_split]
  cases ha : ascB e.T
  · simp
  · have h1 : (e.L.all fun m => acT e.T m.b) = e.L.all fun m => decide (m.b ∈ idsT 1 e.T) := by congr 1; funext m; exact act_ids ha m.b
    have h2 : (e.W.all fun m => acT e.T m.a && acT e.T m.b) = e.W.all fun m => decide (m.a ∈ idsT 1 e.T) && decide (m.b ∈ idsT 1 e.T) := by congr 1; funext m; rw [act_ids ha, act_ids ha]
    rw [h1, h2]
    unfold usB
    cases stB e.C <;> cases lkB e.L <;> cases wtB e.W <;> cases In (lstS e.C) 999 e.z <;> cases decide (e.T.length ≤ 6) <;> cases e.T.any (conB e.C e.z) <;> simp
end Go.Proofs.YtjnlbhmddhpmaaaGreat.eid
/- Chapter 6 of the program: the version that a mark names, slices.IndexFunc and ContainsFunc at marks, ReadsExist: what each answers; nothing that was there is written. -/
namespace Go.Proofs.YtjnlbhmddhpmaaaGreat.ri
open Go.ChangeShapes Go.WideShapes Go.ChangeAt Go.RowKit
open Go.Proofs.YtjnlbhmddhpmaaaGreat.el2 Go.Proofs.YtjnlbhmddhpmaaaGreat.tx Go.Proofs.YtjnlbhmddhpmaaaGreat.seq Go.Proofs.YtjnlbhmddhpmaaaGreat.tv Go.Proofs.YtjnlbhmddhpmaaaGreat.tf Go.Proofs.YtjnlbhmddhpmaaaGreat.rx
open Go.Proofs.YtjnlbhmddhpmaaaGreat.vers (new2)
open Go.Proofs.YtjnlbhmddhpmaaaGreat.sl (Ver)
open Go.Proofs.YtjnlbhmddhpmaaaGreat.st (Rs)
open Go.Proofs.YtjnlbhmddhpmaaaGreat.val (stB)
open Go.Proofs.YtjnlbhmddhpmaaaGreat.find (fndI)
set_option linter.unusedVariables false
set_option linter.unusedSimpArgs false
/-- what versionOf hands back -/
def VO (C : List (List Ver)) (y : E2) (B : Nat) (W : World) (e : Ending) : Prop :=
  (hasV C y = false ∧ e = .returned (.pointer none)) ∨ (hasV C y = true ∧ ∃ b o, e = .returned (.pointer (some ⟨b, o, none⟩)) ∧ b < B ∧ Go.Proofs.YtjnlbhmddhpmaaaGreat.sl.At W b o (verOf C y))
set_option maxRecDepth 100000 in
set_option maxHeartbeats 3200000 in
theorem impl_vof {w : World} {B N cN : Nat} {D : Option Addr} {C : List (List Ver)} (y : E2) (sb : Nat) (hsb : sb < w.heap.size) (hs : w.cell? ⟨sb, 0, none⟩ = some (.slice D N cN)) (hy : 0 ≤ y.a) (hy2 : y.a < (N : Int)) (h3 : Rs w B D N C) (hB : B ≤ w.heap.size) :
    Calls Tryz.prog 99 #[.pointer (some ⟨sb, 0, none⟩), .agg #[.int .i64 y.a, .int .i64 y.b]] w fun e w' => VO C y B w' e ∧ Below w.heap.size w w' := by
  have s4 : y.a.toNat < N := by omega
  obtain ⟨b2, o2, l, A', n', c', rfl, hb2, hl, d0, hn', hv⟩ := h3.at_ s4
  have HL := Lib.hid hl
  clear h3 hl
  generalize hz : fndI y.b l 0 = z
  have HZ := Lib.hid hz
  clear hz
  go_enter Tryz.func99, Tryz.ntmps99
  go_wp2_with fail
  have hb := new1 w (.cells #[.int .i64 y.a, .int .i64 y.b] 83)
  have mb := boxed w y 83
  have hs' := st.up (.cells #[.int .i64 y.a, .int .i64 y.b] 83) hs hsb
  have d0' := st.up (.cells #[.int .i64 y.a, .int .i64 y.b] 83) d0 (show b2 < w.heap.size by omega)
  have hv' := hv.below (below_le hb hB)
  clear hs d0 hv
  generalize w.alloc _ = W0 at hb mb hs' d0' hv' ⊢
  have HV := Lib.hid hv'
  have HB := Lib.hid hb
  obtain ⟨m0, m1⟩ := atFlat mb
  clear hv' hb mb
  go_quiet (fail)
  go_wp2_with fail
  refine (find.impl_find y.b hn' (vsd HV.out _) (Nat.le_trans hB HB.out.size)).mono ?_
  rintro e W1 ⟨rfl, hb1⟩
  rw [HZ.out]
  have HB1 : Hid (Below w.heap.size w W1) := Lib.hid ((Off1 HB.out _).trans (hb1.mono HB.out.size))
  have HV1 := Lib.hid ((vsd HV.out _).below (below_le hb1 (Nat.le_trans hB HB.out.size)))
  clear hb1 m0 m1 hs' d0'
  by_cases hzz : 0 ≤ z
  · have t : decide (z < 0) = false := decide_eq_false (by omega)
    obtain ⟨j, hj, hjl⟩ := fnd_lt (c := y.b) (l := l) (by rw [HZ.out]; exact hzz)
    have hj2 : z = (j : Int) := by rw [← HZ.out]; exact hj
    subst hj2
    have hln := HV.out.1
    obtain ⟨b, o, v, rfl, hbB, hx, a0, a1, a2, a3, a4⟩ := HV1.out.at_ (k := j) (by omega)
    have hjn : (j : Int) < (n' : Int) := by omega
    have HA : Hid (Go.Proofs.YtjnlbhmddhpmaaaGreat.sl.At W1 b (o + j * 5) v) := Lib.hid ⟨a0, a1, a2, a3, a4⟩
    have HX := Lib.hid hx
    clear a0 a1 a2 a3 a4 hx hln hjl
    go_wp2_with fail
    go_ret
    exact ⟨Or.inr ⟨has_at HL.out HZ.out (decide_eq_true hzz), b, o + j * 5, rfl, hbB, by rw [ver_at HL.out HZ.out HX.out]; exact HA.out⟩, HB1.out⟩
  · have t : decide (z < 0) = true := decide_eq_true (by omega)
    go_wp2_with fail
    go_ret
    exact ⟨Or.inl ⟨has_at HL.out HZ.out (decide_eq_false (by omega)), rfl⟩, HB1.out⟩
set_option maxHeartbeats 1600000 in
theorem impl_lacks {w : World} {B N cN : Nat} {D : Option Addr} {C : List (List Ver)} (y : E2) (sb : Nat) (hsb : sb < w.heap.size) (hs : w.cell? ⟨sb, 0, none⟩ = some (.slice D N cN)) (hy : 0 ≤ y.a) (hy2 : y.a < (N : Int)) (h3 : Rs w B D N C) (hB : B ≤ w.heap.size) :
    Calls Tryz.prog 88 #[.pointer (some ⟨sb, 0, none⟩), .agg #[.int .i64 y.a, .int .i64 y.b]] w fun e w' => e = .returned (.bool (!hasV C y)) ∧ Below w.heap.size w w' := by
  have H3 := Lib.hid h3
  clear h3
  go_enter Tryz.func88, Tryz.ntmps88
  go_wp2_with fail
  have hb := new1 w (.cells #[.int .i64 y.a, .int .i64 y.b] 83)
  have mb := boxed w y 83
  have hs' := st.up (.cells #[.int .i64 y.a, .int .i64 y.b] 83) hs hsb
  clear hs
  generalize w.alloc _ = W0 at hb mb hs' ⊢
  have HB := Lib.hid hb
  obtain ⟨m0, m1⟩ := atFlat mb
  have hsz := hb.size
  clear hb mb
  go_wp2_with fail
  refine (impl_vof y sb (by omega) hs' hy hy2 (H3.out.below (below_le HB.out hB)) (by omega)).mono ?_
  rintro e W1 ⟨⟨hh, rfl⟩ | ⟨hh, b, o, rfl, hbB, hA⟩, hb1⟩
  · have HH := Lib.hid hh
    have HB1 : Hid (Below w.heap.size w W1) := Lib.hid (HB.out.trans (hb1.mono HB.out.size))
    clear hb1 hh
    go_wp2_with fail
    go_ret
    exact ⟨by rw [HH.out]; rfl, HB1.out⟩
  · have HH := Lib.hid hh
    have HB1 : Hid (Below w.heap.size w W1) := Lib.hid (HB.out.trans (hb1.mono HB.out.size))
    clear hb1 hA hh
    go_wp2_with fail
    go_ret
    exact ⟨by rw [HH.out]; rfl, HB1.out⟩
theorem any_hit {p : E2 → Bool} {l : List E2} {k : Nat} {y : E2} (hx : l[k]? = some y) (h : p y = true) : l.any p = true := by
  rw [List.any_eq_true]
  exact ⟨y, List.mem_of_getElem? hx, h⟩
theorem any_none {p : E2 → Bool} {l : List E2} {n : Nat} (hn : l.length = n) (h : ∀ (j : Nat) (y : E2), j < n → l[j]? = some y → (!p y) = true) : l.any p = false := by
  have h2 := all_good hn h
  rw [List.all_eq_true] at h2
  rw [List.any_eq_false]
  intro x hx
  have := h2 x hx
  simpa using this
set_option maxRecDepth 100000 in
set_option maxHeartbeats 1600000 in
theorem lib_indexf {w : World} {B n c : Nat} {A : Option Addr} {l : List E2} (g : Nat) (sb : Nat) (p : E2 → Bool) (eg : ∀ args w, (callFunc g args).run Tryz.prog w = .ok (.enter g args) w)
    (hp : ∀ (W : World) (k : Nat) (y : E2), l[k]? = some y → Below w.heap.size w W → Calls Tryz.prog g #[.pointer (some ⟨sb, 0, none⟩), .agg #[.int .i64 y.a, .int .i64 y.b]] W fun e w' => e = .returned (.bool (p y)) ∧ Below W.heap.size W w')
    (hn : n ≤ 140737488355328) (h1 : Vs w B A n l) (hB : B ≤ w.heap.size) :
    Calls Tryz.prog 98 #[.slice A n c, .func (.func g) #[.pointer (some ⟨sb, 0, none⟩)] #[]] w fun e w' => (∃ z : Int, e = .returned (.int .i64 z) ∧ decide (0 ≤ z) = l.any p) ∧ Below w.heap.size w w' := by
  have H1 := Lib.hid h1
  have hln := h1.1
  have HP := Lib.hid hp
  clear h1 hp
  go_enter Tryz.func98, Tryz.ntmps98
  go_wp2_with fail
  go_loopw [5, 8] (fun _ i wr => ∃ k : Nat, k ≤ n ∧ i = .int .i64 k ∧ (∀ (j : Nat) (y : E2), j < k → l[j]? = some y → (!p y) = true) ∧ Below w.heap.size w wr) (fun _ i _ => n - (intOf i).toNat)
  case atStart => exact ⟨0, by omega, rfl, fun j y h => absurd h (by omega), Below.refl _ _⟩
  case round =>
    obtain ⟨k, hk, rfl, hP, hb⟩ := hrel
    have HQ := Lib.hid hP
    have HB := Lib.hid hb
    clear hP
    by_cases hlt : k < n
    · obtain ⟨b, o, y, rfl, hbB, hx, a0, a1⟩ := (H1.out.below (below_le hb hB)).at_ hlt
      have HX := Lib.hid hx
      clear hb hx
      generalize hpy : p y = q
      have HPY := Lib.hid hpy
      clear hpy
      cases q with
      | true =>
        go_wp2_with (go_at_fn g; refine (HP.out _ k y HX.out HB.out).mono ?_; rintro e w' ⟨rfl, hb'⟩; rw [HPY.out])
        go_ret
        exact ⟨⟨k, rfl, by rw [any_hit HX.out HPY.out]; exact decide_eq_true (by omega)⟩, HB.out.trans (hb'.mono HB.out.size)⟩
      | false =>
        go_wp2_with (go_at_fn g; refine (HP.out _ k y HX.out HB.out).mono ?_; rintro e w' ⟨rfl, hb'⟩; rw [HPY.out])
        go_roundw
        case rel => exact ⟨k + 1, by omega, by go_num, all_step (p := fun y => !p y) HQ.out HX.out (by rw [HPY.out]; rfl), HB.out.trans (hb'.mono HB.out.size)⟩
        case measure => simp [intOf]; omega
    · clear hb
      obtain rfl : n = k := by omega
      go_wp2_with fail
      go_ret
      exact ⟨⟨-1, rfl, by rw [any_none hln HQ.out]; rfl⟩, HB.out⟩
set_option maxHeartbeats 1600000 in
theorem lib_containsf {w : World} {B n c : Nat} {A : Option Addr} {l : List E2} (g : Nat) (sb : Nat) (p : E2 → Bool) (eg : ∀ args w, (callFunc g args).run Tryz.prog w = .ok (.enter g args) w)
    (hp : ∀ (W : World) (k : Nat) (y : E2), l[k]? = some y → Below w.heap.size w W → Calls Tryz.prog g #[.pointer (some ⟨sb, 0, none⟩), .agg #[.int .i64 y.a, .int .i64 y.b]] W fun e w' => e = .returned (.bool (p y)) ∧ Below W.heap.size W w')
    (hn : n ≤ 140737488355328) (h1 : Vs w B A n l) (hB : B ≤ w.heap.size) :
    Calls Tryz.prog 87 #[.slice A n c, .func (.func g) #[.pointer (some ⟨sb, 0, none⟩)] #[]] w fun e w' => e = .returned (.bool (l.any p)) ∧ Below w.heap.size w w' := by
  have HC := Lib.hid (lib_indexf (c := c) g sb p eg hp hn h1 hB)
  clear hp h1
  go_enter Tryz.func87, Tryz.ntmps87
  go_wp2_with fail
  refine HC.out.mono ?_
  rintro e W1 ⟨⟨z, rfl, hz⟩, hb1⟩
  have HB1 := Lib.hid hb1
  have HZ := Lib.hid hz
  clear hb1 hz
  go_wp2_with fail
  go_ret
  exact ⟨vers.ret_b HZ.out, HB1.out⟩
theorem enters_lacks : ∀ (args : Array Value) (w : World), (callFunc 88 args).run Tryz.prog w = .ok (.enter 88 args) w := enters_of Tryz.func88 (by kernel_rfl) rfl
theorem any_all {C : List (List Ver)} (R : List E2) : (!R.any fun y => !hasV C y) = R.all (hasV C) := by
  rw [List.not_any_eq_all_not]
  congr 1
  funext y
  simp
set_option maxRecDepth 100000 in
set_option maxHeartbeats 3200000 in
theorem impl_rex {w : World} {B n c n2 c2 N cN : Nat} {A A2 D : Option Addr} {R S : List E2} {C : List (List Ver)} (x : Hd) (hn : n ≤ 140737488355328) (hn2 : n2 ≤ 140737488355328) (hN : N ≤ 140737488355328) (h1 : Vs w B A n R) (h2 : Vs w B A2 n2 S) (h3 : Rs w B D N C) (hB : B ≤ w.heap.size) :
    Calls Tryz.prog 70 #[.agg #[.slice D N cN], .agg #[.int .i64 x.i, .int .i64 x.s, .int .i64 x.t, .int .i64 x.b, .int .i64 x.l, .int .i64 x.h, .int .i64 x.c, .slice A n c, .slice A2 n2 c2]] w fun e w' => e = .returned (.bool (rexB C x R S)) ∧ Below w.heap.size w w' := by
  have H1 := Lib.hid h1
  have H2 := Lib.hid h2
  have H3 := Lib.hid h3
  have hln := h1.1
  clear h1 h2 h3
  have hmf : ∀ (fn : Fn) (first cap : Array Value) (w : World), (Instr.makeFunc fn first cap).run Tryz.prog w = .ok (.func fn first cap) w := fun _ _ _ _ => rfl
  go_enter Tryz.func70, Tryz.ntmps70
  go_wp2_with fail
  have hL := LS.mk2 w (.slice D N cN) 34 55 x A n c A2 n2 c2
  generalize ((w.alloc _).alloc _) = W0 at hL ⊢
  have L0 := Lib.hid hL
  have c0 := hL.st
  clear hL
  go_wp2_with fail
  refine (val.impl_store hN (H3.out.below (below_le L0.out.bel hB)) (by have := L0.out.size; omega)).mono ?_
  rintro e W1 ⟨rfl, hb⟩
  have L1 := Lib.hid (L0.out.call hb)
  obtain ⟨t0, t1, t2, t3, t4, t5, t6, t7, t8⟩ := L1.out.tb
  clear hb c0
  rcases hst : stB C with _ | _
  · have HST := Lib.hid hst
    clear hst
    go_wp2_with fail
    go_ret
    exact ⟨vers.ret_b (rex_st HST.out).symm, L1.out.bel⟩
  have HST := Lib.hid hst
  clear hst
  go_wp2_with fail
  refine (tv.impl_tx x hn hn2 (H1.out.below (below_le L1.out.bel hB)) (H2.out.below (below_le L1.out.bel hB)) (by have := L1.out.size; omega)).mono ?_
  rintro e W2 ⟨rfl, hb⟩
  have L2 := Lib.hid (L1.out.call hb)
  clear hb t0 t1 t2 t3 t4 t5 t6 t7 t8
  rcases htx : txB x R S with _ | _
  · have HTX := Lib.hid htx
    clear htx
    go_wp2_with fail
    go_ret
    exact ⟨vers.ret_b (rex_tx HTX.out).symm, L2.out.bel⟩
  have HTX := Lib.hid htx
  clear htx
  obtain ⟨t0, t1, t2, t3, t4, t5, t6, t7, t8⟩ := L2.out.tb
  clear t0 t1 t2 t3 t4 t5 t6 t8
  go_wp2_with fail
  refine (lib_containsf (c := c) 88 w.heap.size (fun y => !hasV C y) enters_lacks ?_ hn (H1.out.below (below_le L2.out.bel hB)) (by have := L2.out.size; omega)).mono ?_
  · intro W k y hx hbW
    have hkey := key_of HTX.out hx
    have h6 : N = 6 := by have := val.st_six HST.out; rw [H3.out.1] at this; exact this
    have L3 := L2.out.call hbW
    exact impl_lacks y w.heap.size (by have := L3.size; omega) L3.st hkey.1 (by omega) (H3.out.below (below_le L3.bel hB)) (by have := L3.size; omega)
  · rintro e W3 ⟨rfl, hb⟩
    have L3 := Lib.hid (L2.out.call hb)
    clear hb t7
    obtain ⟨q, hq⟩ : ∃ q, (R.any fun y => !hasV C y) = q := ⟨_, rfl⟩
    rw [hq]
    have HQ := Lib.hid hq
    clear hq
    go_wp2_with fail
    go_ret
    exact ⟨vers.ret_b (by rw [rex_all HST.out HTX.out, ← any_all, HQ.out]), L3.out.bel⟩
end Go.Proofs.YtjnlbhmddhpmaaaGreat.ri
/- IsValidEngine's helpers in the program: the IDs rise, what speaks against a transaction, the search for one that is contradicted. -/
namespace Go.Proofs.YtjnlbhmddhpmaaaGreat.ivp
open Go.ChangeShapes Go.WideShapes Go.ChangeAt Go.RowKit
open Go.Proofs.YtjnlbhmddhpmaaaGreat.el2 Go.Proofs.YtjnlbhmddhpmaaaGreat.tx Go.Proofs.YtjnlbhmddhpmaaaGreat.seq Go.Proofs.YtjnlbhmddhpmaaaGreat.mkr Go.Proofs.YtjnlbhmddhpmaaaGreat.en Go.Proofs.YtjnlbhmddhpmaaaGreat.eid Go.Proofs.YtjnlbhmddhpmaaaGreat.ts Go.Proofs.YtjnlbhmddhpmaaaGreat.ego
open Go.Proofs.YtjnlbhmddhpmaaaGreat.fnd (mt_num na_num number_t roster_e)
open Go.Proofs.YtjnlbhmddhpmaaaGreat.tv (class_region class_opk class_call impl_tx txB)
open Go.Proofs.YtjnlbhmddhpmaaaGreat.rx (rexB)
open Go.Proofs.YtjnlbhmddhpmaaaGreat.ri (impl_rex)
open Go.Proofs.YtjnlbhmddhpmaaaGreat.st (Rs)
open Go.Proofs.YtjnlbhmddhpmaaaGreat.vers (ret_b new2 new3)
open Go.Proofs.YtjnlbhmddhpmaaaGreat.sl (Ver)
set_option linter.unusedVariables false
set_option linter.unusedSimpArgs false
set_option linter.constructorNameAsVariable false
theorem ask_bad {L : List Tr} {k : Nat} {t u : Tr} (h0 : 0 < k) (hy : L[k - 1]? = some t) (hx : L[k]? = some u) (h : u.x.i ≤ t.x.i) : ascB L = false := sq_off h0 hy hx (decide_eq_false (by omega))
def Asc (L : List Tr) (k : Nat) : Prop := ∀ (j : Nat) (t u : Tr), j + 1 < k → L[j]? = some t → L[j + 1]? = some u → t.x.i < u.x.i
theorem asc_all {L : List Tr} (h : Asc L L.length) : ascB L = true := sq_yes ⟨fun _ _ _ => rfl, fun j t u ht hu => decide_eq_true (h j t u (by
  rcases Nat.lt_or_ge (j + 1) L.length with h' | h'
  · exact h'
  · rw [List.getElem?_eq_none h'] at hu; cases hu) ht hu)⟩
theorem asc_step {L : List Tr} {k : Nat} {t u : Tr} (h : Asc L k) (h0 : 0 < k) (hy : L[k - 1]? = some t) (hx : L[k]? = some u) (hl : t.x.i < u.x.i) : Asc L (k + 1) := fun j a b hj ha hb => by
  by_cases e : j + 1 = k
  · rw [show k - 1 = j by omega, ha] at hy
    rw [← e, hb] at hx
    cases hy; cases hx; exact hl
  · exact h j a b (by omega) ha hb
set_option maxRecDepth 100000 in
set_option maxHeartbeats 3200000 in
theorem asc_r {w : World} {B M n c : Nat} {A : Option Addr} {L : List Tr} (hn : n ≤ 2097152) (h1 : Ts M w B A n L) (hB : B ≤ w.heap.size) :
    Calls Tryz.prog 47 #[.slice A n c] w fun e w' => e = .returned (.bool (ascB L)) ∧ Below w.heap.size w w' := by
  have HLN := Lib.hid h1.1
  have H1 := Lib.hid h1
  clear h1
  go_enter Tryz.func47, Tryz.ntmps47
  go_wp2_with fail
  go_loopw [3] (fun i wr => ∃ k : Nat, 1 ≤ k ∧ (k ≤ n ∨ k = 1) ∧ i = .int .i64 k ∧ Asc L k ∧ Below w.heap.size w wr) (fun i _ => n - (intOf i).toNat)
  case atStart => exact ⟨1, by omega, by omega, rfl, fun j t u h => absurd h (by omega), Below.refl _ _⟩
  case round =>
    obtain ⟨k, hk1, hk, rfl, hP, hb⟩ := hrel
    have HP := Lib.hid hP
    have HB := Lib.hid hb
    clear hP
    by_cases hlt : k < n
    · have HT := Lib.hid (H1.out.below (Go.Proofs.YtjnlbhmddhpmaaaGreat.el2.below_le hb hB))
      obtain ⟨b, o, u, P1, p1, pc, P2, p2, qc, rfl, hbB, hx, ha, hp1, hp2, hv, hu⟩ := HT.out.at_ hlt
      obtain ⟨b', o', t, Q1, q1, rc, Q2, q2, sc, he, hbB', hy, hd, hq1, hq2, hv2, hu2⟩ := HT.out.at_ (k := k - 1) (by omega)
      injection he with he
      injection he with e1 e2
      subst e1 e2
      have HA := Lib.hid ha
      have HD := Lib.hid hd
      have HX := Lib.hid hx
      have HY := Lib.hid hy
      have hbs : b < wr.heap.size := by have := hb.size; omega
      have mt := mt_num u.x (.slice P1 p1 pc) (.slice P2 p2 qc)
      have na := na_num u.x (.slice P1 p1 pc) (.slice P2 p2 qc)
      have mt2 := mt_num t.x (.slice Q1 q1 rc) (.slice Q2 q2 sc)
      have na2 := na_num t.x (.slice Q1 q1 rc) (.slice Q2 q2 sc)
      have tk : decide ((k : Int) < (n : Int)) = true := decide_eq_true (by omega)
      clear hx hy ha hd hv hu hv2 hu2 hb
      have s1 : IntKind.i64.wrap ((k : Int) - 1) = (k : Int) - 1 := IntWalk.i64_in _ (by omega)
      have s2 : (0 : Int) ≤ (k : Int) - 1 := by omega
      have s3 : ((k : Int) - 1).toNat = k - 1 := by omega
      have s4 : (k : Int) - 1 < (n : Int) := by omega
      have s5 : (1 : Int) ≤ (k : Int) := by omega
      generalize hc : decide (u.x.i ≤ t.x.i) = qc'
      have HC := Lib.hid hc
      clear hc
      go_wp2_with fail
      -- BEGIN REGION
      refine class_region wr.heap.size (by kernel_rfl) (by kernel_rfl) ?_
      with_reducible refine class_opk (.slice (some ⟨b, o, none⟩) n c) ?_ ?_ ?_
      · first | exact rfl | go_simp
      · intro W hW
        go_simp
      intro K hK
      go_simp
      with_reducible refine hK _ ?_
      clear hK K
      with_reducible refine class_opk (.int .i64 (k : Int)) ?_ ?_ ?_
      · first | exact rfl | go_simp
      · intro W hW
        go_simp
      intro K hK
      go_simp
      with_reducible refine hK _ ?_
      clear hK K
      with_reducible refine class_opk (.int .i64 ((k : Int) - 1)) ?_ ?_ ?_
      · first | exact rfl | go_simp
      · intro W hW
        go_simp
      intro K hK
      go_simp
      with_reducible refine hK _ ?_
      clear hK K
      with_reducible refine class_opk (.pointer (some ⟨b, o + (k - 1) * 9, none⟩)) ?_ ?_ ?_
      · first | exact rfl | go_simp
      · intro W hW
        go_simp
      intro K hK
      go_simp
      with_reducible refine hK _ ?_
      clear hK K
      with_reducible refine class_opk (.agg #[.int .i64 t.x.i, .int .i64 t.x.s, .int .i64 t.x.t, .int .i64 t.x.b, .int .i64 t.x.l, .int .i64 t.x.h, .int .i64 t.x.c, .slice Q1 q1 rc, .slice Q2 q2 sc]) ?_ ?_ ?_
      · first | exact rfl | go_simp
      · intro W hW
        obtain ⟨g0, g1, g2, g3, g4, g5, g6, g7, g8⟩ := HD.out.of_block (hW.block b hbs)
        go_simp
      intro K hK
      go_simp
      with_reducible refine hK _ ?_
      clear hK K
      with_reducible refine class_opk (.iface 55 (.agg #[.int .i64 t.x.i, .int .i64 t.x.s, .int .i64 t.x.t, .int .i64 t.x.b, .int .i64 t.x.l, .int .i64 t.x.h, .int .i64 t.x.c, .slice Q1 q1 rc, .slice Q2 q2 sc])) ?_ ?_ ?_
      · first | exact rfl | go_simp
      · intro W hW
        go_simp
      intro K hK
      go_simp
      with_reducible refine hK _ ?_
      clear hK K
      with_reducible refine class_opk (.int .i64 t.x.i) ?_ ?_ ?_
      · first | exact rfl | go_simp
      · intro W hW
        go_simp
        refine class_call hW ?_
        exact number_t t.x _ _ W
      intro K hK
      go_simp
      with_reducible refine hK _ ?_
      clear hK K
      with_reducible refine class_opk (.slice (some ⟨b, o, none⟩) n c) ?_ ?_ ?_
      · first | exact rfl | go_simp
      · intro W hW
        go_simp
      intro K hK
      go_simp
      with_reducible refine hK _ ?_
      clear hK K
      with_reducible refine class_opk (.int .i64 (k : Int)) ?_ ?_ ?_
      · first | exact rfl | go_simp
      · intro W hW
        go_simp
      intro K hK
      go_simp
      with_reducible refine hK _ ?_
      clear hK K
      with_reducible refine class_opk (.pointer (some ⟨b, o + k * 9, none⟩)) ?_ ?_ ?_
      · first | exact rfl | go_simp
      · intro W hW
        go_simp
      intro K hK
      go_simp
      with_reducible refine hK _ ?_
      clear hK K
      with_reducible refine class_opk (.agg #[.int .i64 u.x.i, .int .i64 u.x.s, .int .i64 u.x.t, .int .i64 u.x.b, .int .i64 u.x.l, .int .i64 u.x.h, .int .i64 u.x.c, .slice P1 p1 pc, .slice P2 p2 qc]) ?_ ?_ ?_
      · first | exact rfl | go_simp
      · intro W hW
        obtain ⟨g0, g1, g2, g3, g4, g5, g6, g7, g8⟩ := HA.out.of_block (hW.block b hbs)
        go_simp
      intro K hK
      go_simp
      with_reducible refine hK _ ?_
      clear hK K
      with_reducible refine class_opk (.iface 55 (.agg #[.int .i64 u.x.i, .int .i64 u.x.s, .int .i64 u.x.t, .int .i64 u.x.b, .int .i64 u.x.l, .int .i64 u.x.h, .int .i64 u.x.c, .slice P1 p1 pc, .slice P2 p2 qc])) ?_ ?_ ?_
      · first | exact rfl | go_simp
      · intro W hW
        go_simp
      intro K hK
      go_simp
      with_reducible refine hK _ ?_
      clear hK K
      with_reducible refine class_opk (.int .i64 u.x.i) ?_ ?_ ?_
      · first | exact rfl | go_simp
      · intro W hW
        go_simp
        refine class_call hW ?_
        exact number_t u.x _ _ W
      intro K hK
      go_simp
      with_reducible refine hK _ ?_
      clear hK K
      with_reducible refine class_opk (.bool qc') ?_ ?_ ?_
      · first | exact rfl | go_simp
      · intro W hW
        go_simp
        try exact ⟨rfl, by rw [HC.out]⟩
        try rw [HC.out]
      intro K hK
      go_simp
      with_reducible refine hK _ ?_
      clear hK K
      go_simp
      intro W hW
      cases qc' with
      | true =>
        have HB2 := Lib.hid (HB.out.trans (hW.mono HB.out.size))
        go_wp2_with fail
        go_ret
        exact ⟨ret_b (ask_bad (by omega) HY.out HX.out (of_decide_eq_true HC.out)).symm, HB2.out⟩
      | false =>
        have HB2 := Lib.hid (HB.out.trans (hW.mono HB.out.size))
        go_wp2_with fail
        go_roundw
        case rel => exact ⟨k + 1, by omega, by omega, by go_num, asc_step HP.out (by omega) HY.out HX.out (by have := of_decide_eq_false HC.out; omega), HB2.out⟩
        case measure => simp [intOf]; omega
      -- END REGION
    · have HE : Hid (ascB L = true) := Lib.hid (asc_all fun j t u hj => HP.out j t u (by have := HLN.out; omega))
      clear hb
      go_wp2_with fail
      go_ret
      exact ⟨ret_b HE.out.symm, HB.out⟩
/-! what speaks against a transaction -/
set_option maxRecDepth 100000 in
set_option maxHeartbeats 3200000 in
theorem con_e {w : World} {B n1 c1 n2 c2 n3 c3 n4 c4 p1 pc p2 qc : Nat} {A1 A2 A3 A4 P1 P2 : Option Addr} {C : List (List Ver)} (q : Bool) (z : Int) (t : Tr) (hn1 : n1 ≤ 2097152) (hp1 : p1 ≤ 2097152) (hp2 : p2 ≤ 2097152) (h1 : Rs w B A1 n1 C) (hv : Vs w B P1 p1 t.R) (hu : Vs w B P2 p2 t.S) (hB : B ≤ w.heap.size) :
    Calls Tryz.prog 49 #[.agg #[.bool q, .slice A1 n1 c1, .slice A2 n2 c2, .slice A3 n3 c3, .slice A4 n4 c4, .int .i64 z], .agg #[.int .i64 t.x.i, .int .i64 t.x.s, .int .i64 t.x.t, .int .i64 t.x.b, .int .i64 t.x.l, .int .i64 t.x.h, .int .i64 t.x.c, .slice P1 p1 pc, .slice P2 p2 qc]] w fun e w' => e = .returned (.bool (conB C z t)) ∧ Below w.heap.size w w' := by
  have H1 := Lib.hid h1
  have HV := Lib.hid hv
  have HU := Lib.hid hu
  have hb := new2 w (.cells #[.bool q, .slice A1 n1 c1, .slice A2 n2 c2, .slice A3 n3 c3, .slice A4 n4 c4, .int .i64 z] 39) (.cells #[.int .i64 t.x.i, .int .i64 t.x.s, .int .i64 t.x.t, .int .i64 t.x.b, .int .i64 t.x.l, .int .i64 t.x.h, .int .i64 t.x.c, .slice P1 p1 pc, .slice P2 p2 qc] 55)
  have he := (Go.Proofs.YtjnlbhmddhpmaaaGreat.eg.EB.new w q (.slice A1 n1 c1) (.slice A2 n2 c2) (.slice A3 n3 c3) (.slice A4 n4 c4) z 39).keep (by simp) (new1 (w.alloc (.cells #[.bool q, .slice A1 n1 c1, .slice A2 n2 c2, .slice A3 n3 c3, .slice A4 n4 c4, .int .i64 z] 39)) (.cells #[.int .i64 t.x.i, .int .i64 t.x.s, .int .i64 t.x.t, .int .i64 t.x.b, .int .i64 t.x.l, .int .i64 t.x.h, .int .i64 t.x.c, .slice P1 p1 pc, .slice P2 p2 qc] 55))
  have ht := TB.new (w.alloc (.cells #[.bool q, .slice A1 n1 c1, .slice A2 n2 c2, .slice A3 n3 c3, .slice A4 n4 c4, .int .i64 z] 39)) t.x P1 p1 pc P2 p2 qc 55
  have hz1 : (w.alloc (.cells #[.bool q, .slice A1 n1 c1, .slice A2 n2 c2, .slice A3 n3 c3, .slice A4 n4 c4, .int .i64 z] 39)).heap.size = w.heap.size + 1 := by simp
  rw [hz1] at ht
  have hz2 : ((w.alloc (.cells #[.bool q, .slice A1 n1 c1, .slice A2 n2 c2, .slice A3 n3 c3, .slice A4 n4 c4, .int .i64 z] 39)).alloc (.cells #[.int .i64 t.x.i, .int .i64 t.x.s, .int .i64 t.x.t, .int .i64 t.x.b, .int .i64 t.x.l, .int .i64 t.x.h, .int .i64 t.x.c, .slice P1 p1 pc, .slice P2 p2 qc] 55)).heap.size = w.heap.size + 2 := by simp
  clear h1 hv hu hz1
  rcases htx : txB t.x t.R t.S with _ | _
  · have HTX := Lib.hid htx
    have HC : Hid (conB C z t = true) := Lib.hid (by unfold conB; rw [htx]; rfl)
    clear htx
    go_enter Tryz.func49, Tryz.ntmps49
    go_wp2_with fail
    generalize (w.alloc _).alloc _ = W0 at hb he ht hz2 ⊢
    have HB := Lib.hid hb
    have HE := Lib.hid he
    have HT := Lib.hid ht
    clear hb
    obtain ⟨e0, e1, e2, e3, e4, e5⟩ := he
    obtain ⟨t0, t1, t2, t3, t4, t5, t6, t7, t8⟩ := ht
    try go_wp2_with fail
    refine (impl_tx t.x (by omega) (by omega) (HV.out.below (Go.Proofs.YtjnlbhmddhpmaaaGreat.el2.below_le HB.out hB)) (HU.out.below (Go.Proofs.YtjnlbhmddhpmaaaGreat.el2.below_le HB.out hB)) (by omega)).mono ?_
    rintro e W1 ⟨rfl, hb⟩
    rw [HTX.out]
    have HB1 := Lib.hid (HB.out.trans (hb.mono HB.out.size))
    have he := HE.out.keep (B := W0.heap.size) (by omega) hb
    have ht := HT.out.keep (B := W0.heap.size) (by omega) hb
    have hs1 := hb.size
    clear hb e0 e1 e2 e3 e4 e5 t0 t1 t2 t3 t4 t5 t6 t7 t8
    have HE1 := Lib.hid he
    have HT1 := Lib.hid ht
    obtain ⟨e0, e1, e2, e3, e4, e5⟩ := he
    obtain ⟨t0, t1, t2, t3, t4, t5, t6, t7, t8⟩ := ht
    go_wp2_with fail
    go_ret
    exact ⟨ret_b (by rw [HC.out]), HB1.out⟩
  have HTX := Lib.hid htx
  rcases hbz : decide (z < t.x.b) with _ | _
  case true =>
    have HC : Hid (conB C z t = true) := Lib.hid (by unfold conB; rw [htx, hbz]; rfl)
    clear htx
    go_enter Tryz.func49, Tryz.ntmps49
    go_wp2_with fail
    generalize (w.alloc _).alloc _ = W0 at hb he ht hz2 ⊢
    have HB := Lib.hid hb
    have HE := Lib.hid he
    have HT := Lib.hid ht
    clear hb
    obtain ⟨e0, e1, e2, e3, e4, e5⟩ := he
    obtain ⟨t0, t1, t2, t3, t4, t5, t6, t7, t8⟩ := ht
    try go_wp2_with fail
    refine (impl_tx t.x (by omega) (by omega) (HV.out.below (Go.Proofs.YtjnlbhmddhpmaaaGreat.el2.below_le HB.out hB)) (HU.out.below (Go.Proofs.YtjnlbhmddhpmaaaGreat.el2.below_le HB.out hB)) (by omega)).mono ?_
    rintro e W1 ⟨rfl, hb⟩
    rw [HTX.out]
    have HB1 := Lib.hid (HB.out.trans (hb.mono HB.out.size))
    have he := HE.out.keep (B := W0.heap.size) (by omega) hb
    have ht := HT.out.keep (B := W0.heap.size) (by omega) hb
    have hs1 := hb.size
    clear hb e0 e1 e2 e3 e4 e5 t0 t1 t2 t3 t4 t5 t6 t7 t8
    have HE1 := Lib.hid he
    have HT1 := Lib.hid ht
    obtain ⟨e0, e1, e2, e3, e4, e5⟩ := he
    obtain ⟨t0, t1, t2, t3, t4, t5, t6, t7, t8⟩ := ht
    go_wp2_with fail
    go_ret
    exact ⟨ret_b (by rw [HC.out]), HB1.out⟩
  rcases hcz : decide (z < t.x.c) with _ | _
  case true =>
    have HC : Hid (conB C z t = true) := Lib.hid (by unfold conB; rw [htx, hbz, hcz]; rfl)
    clear htx
    go_enter Tryz.func49, Tryz.ntmps49
    go_wp2_with fail
    generalize (w.alloc _).alloc _ = W0 at hb he ht hz2 ⊢
    have HB := Lib.hid hb
    have HE := Lib.hid he
    have HT := Lib.hid ht
    clear hb
    obtain ⟨e0, e1, e2, e3, e4, e5⟩ := he
    obtain ⟨t0, t1, t2, t3, t4, t5, t6, t7, t8⟩ := ht
    try go_wp2_with fail
    refine (impl_tx t.x (by omega) (by omega) (HV.out.below (Go.Proofs.YtjnlbhmddhpmaaaGreat.el2.below_le HB.out hB)) (HU.out.below (Go.Proofs.YtjnlbhmddhpmaaaGreat.el2.below_le HB.out hB)) (by omega)).mono ?_
    rintro e W1 ⟨rfl, hb⟩
    rw [HTX.out]
    have HB1 := Lib.hid (HB.out.trans (hb.mono HB.out.size))
    have he := HE.out.keep (B := W0.heap.size) (by omega) hb
    have ht := HT.out.keep (B := W0.heap.size) (by omega) hb
    have hs1 := hb.size
    clear hb e0 e1 e2 e3 e4 e5 t0 t1 t2 t3 t4 t5 t6 t7 t8
    have HE1 := Lib.hid he
    have HT1 := Lib.hid ht
    obtain ⟨e0, e1, e2, e3, e4, e5⟩ := he
    obtain ⟨t0, t1, t2, t3, t4, t5, t6, t7, t8⟩ := ht
    go_wp2_with fail
    go_ret
    exact ⟨ret_b (by rw [HC.out]), HB1.out⟩
  by_cases ha : t.x.t = 1
  case neg =>
    have ta : (t.x.t == 1) = false := by simpa using ha
    have HC : Hid (conB C z t = false) := Lib.hid (by unfold conB; rw [htx, hbz, hcz, decide_eq_false ha]; rfl)
    clear htx ha
    go_enter Tryz.func49, Tryz.ntmps49
    go_wp2_with fail
    generalize (w.alloc _).alloc _ = W0 at hb he ht hz2 ⊢
    have HB := Lib.hid hb
    have HE := Lib.hid he
    have HT := Lib.hid ht
    clear hb
    obtain ⟨e0, e1, e2, e3, e4, e5⟩ := he
    obtain ⟨t0, t1, t2, t3, t4, t5, t6, t7, t8⟩ := ht
    try go_wp2_with fail
    refine (impl_tx t.x (by omega) (by omega) (HV.out.below (Go.Proofs.YtjnlbhmddhpmaaaGreat.el2.below_le HB.out hB)) (HU.out.below (Go.Proofs.YtjnlbhmddhpmaaaGreat.el2.below_le HB.out hB)) (by omega)).mono ?_
    rintro e W1 ⟨rfl, hb⟩
    rw [HTX.out]
    have HB1 := Lib.hid (HB.out.trans (hb.mono HB.out.size))
    have he := HE.out.keep (B := W0.heap.size) (by omega) hb
    have ht := HT.out.keep (B := W0.heap.size) (by omega) hb
    have hs1 := hb.size
    clear hb e0 e1 e2 e3 e4 e5 t0 t1 t2 t3 t4 t5 t6 t7 t8
    have HE1 := Lib.hid he
    have HT1 := Lib.hid ht
    obtain ⟨e0, e1, e2, e3, e4, e5⟩ := he
    obtain ⟨t0, t1, t2, t3, t4, t5, t6, t7, t8⟩ := ht
    go_wp2_with fail
    go_ret
    exact ⟨ret_b (by rw [HC.out]), HB1.out⟩
  have ta : (t.x.t == 1) = true := by simpa using ha
  rcases hrx : rexB C t.x t.R t.S with _ | _
  · have HRX := Lib.hid hrx
    have HC : Hid (conB C z t = true) := Lib.hid (by unfold conB; rw [htx, hbz, hcz, decide_eq_true ha, hrx]; rfl)
    clear htx ha hrx
    go_enter Tryz.func49, Tryz.ntmps49
    go_wp2_with fail
    generalize (w.alloc _).alloc _ = W0 at hb he ht hz2 ⊢
    have HB := Lib.hid hb
    have HE := Lib.hid he
    have HT := Lib.hid ht
    clear hb
    obtain ⟨e0, e1, e2, e3, e4, e5⟩ := he
    obtain ⟨t0, t1, t2, t3, t4, t5, t6, t7, t8⟩ := ht
    try go_wp2_with fail
    refine (impl_tx t.x (by omega) (by omega) (HV.out.below (Go.Proofs.YtjnlbhmddhpmaaaGreat.el2.below_le HB.out hB)) (HU.out.below (Go.Proofs.YtjnlbhmddhpmaaaGreat.el2.below_le HB.out hB)) (by omega)).mono ?_
    rintro e W1 ⟨rfl, hb⟩
    rw [HTX.out]
    have HB1 := Lib.hid (HB.out.trans (hb.mono HB.out.size))
    have he := HE.out.keep (B := W0.heap.size) (by omega) hb
    have ht := HT.out.keep (B := W0.heap.size) (by omega) hb
    have hs1 := hb.size
    clear hb e0 e1 e2 e3 e4 e5 t0 t1 t2 t3 t4 t5 t6 t7 t8
    have HE1 := Lib.hid he
    have HT1 := Lib.hid ht
    obtain ⟨e0, e1, e2, e3, e4, e5⟩ := he
    obtain ⟨t0, t1, t2, t3, t4, t5, t6, t7, t8⟩ := ht
    go_wp2_with fail
    refine (impl_rex t.x (by omega) (by omega) (by omega) (HV.out.below (Go.Proofs.YtjnlbhmddhpmaaaGreat.el2.below_le HB1.out hB)) (HU.out.below (Go.Proofs.YtjnlbhmddhpmaaaGreat.el2.below_le HB1.out hB)) (H1.out.below (Go.Proofs.YtjnlbhmddhpmaaaGreat.sl.below_le HB1.out hB)) (by omega)).mono ?_
    rintro e W2 ⟨rfl, hb⟩
    rw [HRX.out]
    have HB2 := Lib.hid (HB1.out.trans (hb.mono HB1.out.size))
    clear hb
    try go_wp2_with fail
    go_ret
    exact ⟨ret_b (by rw [HC.out]), HB2.out⟩
  · have HRX := Lib.hid hrx
    have HC : Hid (conB C z t = false) := Lib.hid (by unfold conB; rw [htx, hbz, hcz, decide_eq_true ha, hrx]; rfl)
    clear htx ha hrx
    go_enter Tryz.func49, Tryz.ntmps49
    go_wp2_with fail
    generalize (w.alloc _).alloc _ = W0 at hb he ht hz2 ⊢
    have HB := Lib.hid hb
    have HE := Lib.hid he
    have HT := Lib.hid ht
    clear hb
    obtain ⟨e0, e1, e2, e3, e4, e5⟩ := he
    obtain ⟨t0, t1, t2, t3, t4, t5, t6, t7, t8⟩ := ht
    try go_wp2_with fail
    refine (impl_tx t.x (by omega) (by omega) (HV.out.below (Go.Proofs.YtjnlbhmddhpmaaaGreat.el2.below_le HB.out hB)) (HU.out.below (Go.Proofs.YtjnlbhmddhpmaaaGreat.el2.below_le HB.out hB)) (by omega)).mono ?_
    rintro e W1 ⟨rfl, hb⟩
    rw [HTX.out]
    have HB1 := Lib.hid (HB.out.trans (hb.mono HB.out.size))
    have he := HE.out.keep (B := W0.heap.size) (by omega) hb
    have ht := HT.out.keep (B := W0.heap.size) (by omega) hb
    have hs1 := hb.size
    clear hb e0 e1 e2 e3 e4 e5 t0 t1 t2 t3 t4 t5 t6 t7 t8
    have HE1 := Lib.hid he
    have HT1 := Lib.hid ht
    obtain ⟨e0, e1, e2, e3, e4, e5⟩ := he
    obtain ⟨t0, t1, t2, t3, t4, t5, t6, t7, t8⟩ := ht
    go_wp2_with fail
    refine (impl_rex t.x (by omega) (by omega) (by omega) (HV.out.below (Go.Proofs.YtjnlbhmddhpmaaaGreat.el2.below_le HB1.out hB)) (HU.out.below (Go.Proofs.YtjnlbhmddhpmaaaGreat.el2.below_le HB1.out hB)) (H1.out.below (Go.Proofs.YtjnlbhmddhpmaaaGreat.sl.below_le HB1.out hB)) (by omega)).mono ?_
    rintro e W2 ⟨rfl, hb⟩
    rw [HRX.out]
    have HB2 := Lib.hid (HB1.out.trans (hb.mono HB1.out.size))
    clear hb
    try go_wp2_with fail
    go_ret
    exact ⟨ret_b (by rw [HC.out]), HB2.out⟩
theorem enters_con : ∀ (args : Array Value) (w : World), (callFunc 49 args).run Tryz.prog w = .ok (.enter 49 args) w := enters_of Tryz.func49 (by kernel_rfl) rfl
def AnyK (p : Tr → Bool) (L : List Tr) (k : Nat) : Prop := ∀ (j : Nat) (t : Tr), j < k → L[j]? = some t → p t = false
theorem any_step {p : Tr → Bool} {L : List Tr} {k : Nat} {t : Tr} (h : AnyK p L k) (hx : L[k]? = some t) (hp : p t = false) : AnyK p L (k + 1) := fun j u hj hu => by
  by_cases e : j = k
  · subst e; rw [hx] at hu; cases hu; exact hp
  · exact h j u (by omega) hu
theorem any_hit {p : Tr → Bool} {L : List Tr} {k : Nat} {t : Tr} (hx : L[k]? = some t) (hp : p t = true) : L.any p = true := List.any_eq_true.2 ⟨t, List.mem_of_getElem? hx, hp⟩
theorem any_none {p : Tr → Bool} {L : List Tr} {n : Nat} (hn : L.length = n) (h : AnyK p L n) : L.any p = false := by
  rw [List.any_eq_false]
  intro t ht
  obtain ⟨k, hk, rfl⟩ := List.getElem_of_mem ht
  rw [h k _ (by omega) (List.getElem?_eq_getElem hk)]
  decide
set_option maxRecDepth 100000 in
set_option maxHeartbeats 3200000 in
theorem index_con {w : World} {B n c n1 c1 n2 c2 n3 c3 n4 c4 : Nat} {A A1 A2 A3 A4 : Option Addr} {C : List (List Ver)} {L : List Tr} (q : Bool) (z : Int) (hn : n ≤ 2097152) (hn1 : n1 ≤ 2097152) (h1 : Rs w B A1 n1 C) (h2 : Ts 2097152 w B A n L) (hB : B ≤ w.heap.size) :
    Calls Tryz.prog 68 #[.slice A n c, .func (.func 49) #[.agg #[.bool q, .slice A1 n1 c1, .slice A2 n2 c2, .slice A3 n3 c3, .slice A4 n4 c4, .int .i64 z]] #[]] w fun e w' => (∃ i : Int, e = .returned (.int .i64 i) ∧ decide (0 ≤ i) = L.any (conB C z)) ∧ Below w.heap.size w w' := by
  have H1 := Lib.hid h1
  have H2 := Lib.hid h2
  have HLN := Lib.hid h2.1
  have eg := enters_con
  clear h1 h2
  go_enter Tryz.func68, Tryz.ntmps68
  go_wp2_with fail
  go_loopw [5, 8] (fun _ i wr => ∃ k : Nat, k ≤ n ∧ i = .int .i64 k ∧ AnyK (conB C z) L k ∧ Below w.heap.size w wr) (fun _ i _ => n - (intOf i).toNat)
  case atStart => exact ⟨0, by omega, rfl, fun j t h => absurd h (by omega), Below.refl _ _⟩
  case round =>
    obtain ⟨k, hk, rfl, hP, hb⟩ := hrel
    have HP := Lib.hid hP
    have HB := Lib.hid hb
    have hsz := hb.size
    clear hP
    by_cases hlt : k < n
    · obtain ⟨b, o, t, P1, p1, pc, P2, p2, qc, rfl, hbB, hx, ⟨a0, a1, a2, a3, a4, a5, a6, a7, a8⟩, hp1, hp2, hv, hu⟩ := (H2.out.below (Go.Proofs.YtjnlbhmddhpmaaaGreat.el2.below_le hb hB)).at_ hlt
      have HX := Lib.hid hx
      have HC := Lib.hid (con_e (c1 := c1) (n2 := n2) (c2 := c2) (n3 := n3) (c3 := c3) (n4 := n4) (c4 := c4) (A2 := A2) (A3 := A3) (A4 := A4) (pc := pc) (qc := qc) q z t hn1 hp1 hp2 (H1.out.below (Go.Proofs.YtjnlbhmddhpmaaaGreat.sl.below_le hb hB)) hv hu (by omega))
      clear hx hv hu hb
      generalize hr : conB C z t = r at HC
      have HR := Lib.hid hr
      clear hr
      cases r with
      | true =>
        go_wp2_with fail
        refine HC.out.mono ?_
        rintro e W ⟨rfl, hb⟩
        try go_wp2_with fail
        go_ret
        exact ⟨⟨k, rfl, by rw [any_hit HX.out HR.out]; exact decide_eq_true (by omega)⟩, HB.out.trans (hb.mono HB.out.size)⟩
      | false =>
        go_wp2_with fail
        refine HC.out.mono ?_
        rintro e W ⟨rfl, hb⟩
        try go_wp2_with fail
        go_roundw
        case rel => exact ⟨k + 1, by omega, by go_num, any_step HP.out HX.out HR.out, HB.out.trans (hb.mono HB.out.size)⟩
        case measure => simp [intOf]; omega
    · obtain rfl : n = k := by omega
      clear hb
      go_wp2_with fail
      go_ret
      exact ⟨⟨-1, rfl, by rw [any_none HLN.out HP.out]; rfl⟩, HB.out⟩
theorem contains_con {w : World} {B n c n1 c1 n2 c2 n3 c3 n4 c4 : Nat} {A A1 A2 A3 A4 : Option Addr} {C : List (List Ver)} {L : List Tr} (q : Bool) (z : Int) (hn : n ≤ 2097152) (hn1 : n1 ≤ 2097152) (h1 : Rs w B A1 n1 C) (h2 : Ts 2097152 w B A n L) (hB : B ≤ w.heap.size) :
    Calls Tryz.prog 48 #[.slice A n c, .func (.func 49) #[.agg #[.bool q, .slice A1 n1 c1, .slice A2 n2 c2, .slice A3 n3 c3, .slice A4 n4 c4, .int .i64 z]] #[]] w fun e w' => e = .returned (.bool (L.any (conB C z))) ∧ Below w.heap.size w w' := by
  have HC := Lib.hid (index_con (c := c) (c1 := c1) (n2 := n2) (c2 := c2) (n3 := n3) (c3 := c3) (n4 := n4) (c4 := c4) (A2 := A2) (A3 := A3) (A4 := A4) q z hn hn1 h1 h2 hB)
  clear h1 h2
  go_enter Tryz.func48, Tryz.ntmps48
  go_wp2_with fail
  refine HC.out.mono ?_
  rintro e W ⟨⟨i, rfl, hi⟩, hb⟩
  have HI := Lib.hid hi
  clear hi
  go_wp2_with fail
  go_ret
  exact ⟨ret_b HI.out, hb⟩
set_option maxRecDepth 100000 in
set_option maxHeartbeats 3200000 in
theorem impl_art {w : World} {B n1 c1 n2 c2 n3 c3 n4 c4 : Nat} {A1 A2 A3 A4 : Option Addr} {C : List (List Ver)} {L : List Tr} (q : Bool) (z : Int) (hn1 : n1 ≤ 2097152) (hn2 : n2 ≤ 2097152) (h1 : Rs w B A1 n1 C) (h2 : Ts 2097152 w B A2 n2 L) (hB : B ≤ w.heap.size) :
    Calls Tryz.prog 27 #[.agg #[.bool q, .slice A1 n1 c1, .slice A2 n2 c2, .slice A3 n3 c3, .slice A4 n4 c4, .int .i64 z]] w fun e w' => e = .returned (.bool (artB C L z)) ∧ Below w.heap.size w w' := by
  have H1 := Lib.hid h1
  have H2 := Lib.hid h2
  have hln := h2.1
  have hmf : ∀ (fn : Fn) (first cap : Array Value) (w : World), (Instr.makeFunc fn first cap).run Tryz.prog w = .ok (.func fn first cap) w := fun _ _ _ _ => rfl
  have hb := new1 w (.cells #[.bool q, .slice A1 n1 c1, .slice A2 n2 c2, .slice A3 n3 c3, .slice A4 n4 c4, .int .i64 z] 39)
  have he := Go.Proofs.YtjnlbhmddhpmaaaGreat.eg.EB.new w q (.slice A1 n1 c1) (.slice A2 n2 c2) (.slice A3 n3 c3) (.slice A4 n4 c4) z 39
  have hz2 : (w.alloc (.cells #[.bool q, .slice A1 n1 c1, .slice A2 n2 c2, .slice A3 n3 c3, .slice A4 n4 c4, .int .i64 z] 39)).heap.size = w.heap.size + 1 := by simp
  clear h1 h2
  by_cases h6 : 6 < n2
  · have t6 : decide ((6 : Int) < (n2 : Int)) = true := decide_eq_true (by omega)
    have HC : Hid (artB C L z = false) := Lib.hid (by unfold artB; rw [decide_eq_false (by omega)]; rfl)
    clear he hln
    go_enter Tryz.func27, Tryz.ntmps27
    go_wp2_with fail
    go_ret
    exact ⟨ret_b HC.out.symm, hb⟩
  have t6 : decide ((6 : Int) < (n2 : Int)) = false := decide_eq_false (by omega)
  have HL6 : Hid (decide (L.length ≤ 6) = true) := Lib.hid (decide_eq_true (by omega))
  clear hln
  go_enter Tryz.func27, Tryz.ntmps27
  go_wp2_with fail
  generalize w.alloc _ = W0 at hb he hz2 ⊢
  have HB := Lib.hid hb
  have HE := Lib.hid he
  clear hb
  obtain ⟨e0, e1, e2, e3, e4, e5⟩ := he
  try go_wp2_with fail
  refine (roster_e q _ _ _ A2 n2 c2 z W0).mono ?_
  rintro e W1 ⟨rfl, hb⟩
  have hs1 := hb.size
  have HB1 := Lib.hid (HB.out.trans (hb.mono HB.out.size))
  have HE1 := Lib.hid (HE.out.keep (B := W0.heap.size) (by omega) hb)
  clear hb e0 e1 e2 e3 e4 e5
  obtain ⟨e0, e1, e2, e3, e4, e5⟩ := HE1.out
  go_wp2_with fail
  refine (asc_r (c := c2) hn2 (H2.out.below (Go.Proofs.YtjnlbhmddhpmaaaGreat.el2.below_le HB1.out hB)) (by omega)).mono ?_
  rintro e W2 ⟨rfl, hb⟩
  have hs2 := hb.size
  have HB2 := Lib.hid (HB1.out.trans (hb.mono HB1.out.size))
  have HE2 := Lib.hid (HE1.out.keep (B := W1.heap.size) (by omega) hb)
  clear hb e0 e1 e2 e3 e4 e5
  obtain ⟨e0, e1, e2, e3, e4, e5⟩ := HE2.out
  rcases ha : ascB L with _ | _
  · have HC : Hid (artB C L z = false) := Lib.hid (by unfold artB; rw [ha]; simp)
    clear ha
    go_wp2_with fail
    go_ret
    exact ⟨ret_b HC.out.symm, HB2.out⟩
  · have HA := Lib.hid ha
    clear ha
    go_wp2_with fail
    refine (contains_con (c := c2) q z hn2 hn1 (H1.out.below (Go.Proofs.YtjnlbhmddhpmaaaGreat.sl.below_le HB2.out hB)) (H2.out.below (Go.Proofs.YtjnlbhmddhpmaaaGreat.el2.below_le HB2.out hB)) (by omega)).mono ?_
    rintro e W3 ⟨rfl, hb⟩
    have HB3 := Lib.hid (HB2.out.trans (hb.mono HB2.out.size))
    clear hb
    generalize hy : L.any (conB C z) = y
    have HC : Hid (artB C L z = !y) := Lib.hid (by unfold artB; rw [HL6.out, HA.out, hy]; simp)
    clear hy
    go_wp2_with fail
    go_ret
    exact ⟨ret_b HC.out.symm, HB3.out⟩
end Go.Proofs.YtjnlbhmddhpmaaaGreat.ivp
/- AreLocks of the program and of the model: what each answers; nothing that was there is written. -/
namespace Go.Proofs.YtjnlbhmddhpmaaaGreat.lka
open Go.ChangeShapes Go.WideShapes Go.ChangeAt Go.RowKit
open Go.Proofs.YtjnlbhmddhpmaaaGreat.el2 Go.Proofs.YtjnlbhmddhpmaaaGreat.seq Go.Proofs.YtjnlbhmddhpmaaaGreat.lk
open Go.Proofs.YtjnlbhmddhpmaaaGreat.vers (In in_yes in_no in_of in_off in_range ret_b)
open Go.Proofs.YtjnlbhmddhpmaaaGreat.tv (is_key)
open Go.Proofs.YtjnlbhmddhpmaaaGreat.rx (qleft)
set_option linter.unusedVariables false
set_option linter.unusedSimpArgs false
theorem in_q {x lo hi : Int} {q : Bool} (h : In lo hi x = q) (w : World) : Calls Tryz.prog 16 #[.int .i64 x, .int .i64 lo, .int .i64 hi] w fun e w' => e = .returned (.bool q) ∧ w = w' := by
  subst h
  exact in_range _ _ _ _
theorem is_id (x : Int) (w : World) :
    Calls Tryz.prog 51 #[.int .i64 x] w fun e w' => e = .returned (.bool (In 1 9 x)) ∧ w = w' := by
  go_enter Tryz.func51, Tryz.ntmps51
  by_cases h : 1 ≤ x
  · have d : decide (1 ≤ x) = true := decide_eq_true h
    go_wp2
    go_ret
    simp [In, d]
  · have d : decide (1 ≤ x) = false := decide_eq_false h
    go_wp2
    go_ret
    simp [In, d]
theorem key_q {x : Int} {q : Bool} (h : In 0 5 x = q) (w : World) : Calls Tryz.prog 50 #[.int .i64 x] w fun e w' => e = .returned (.bool q) ∧ w = w' := by
  subst h
  exact is_key _ _
theorem id_q {x : Int} {q : Bool} (h : In 1 9 x = q) (w : World) : Calls Tryz.prog 51 #[.int .i64 x] w fun e w' => e = .returned (.bool q) ∧ w = w' := by
  subst h
  exact is_id _ _
theorem at_prev {w : World} {B n b o k : Nat} {A : Option Addr} {l : List E2} (h : Vs w B A n l) (hA : A = some ⟨b, o, none⟩) (hk : k < n) (h0 : 0 < k) : ∃ y, l[k - 1]? = some y ∧ At w b (o + (k - 1) * 2) y := by
  obtain ⟨b', o', y, e, _, hy, ha⟩ := h.at_ (k := k - 1) (by omega)
  rw [hA] at e
  injection e with e
  injection e with e1 e2
  subst e1 e2
  exact ⟨y, hy, ha⟩
theorem lk_bad {l : List E2} {k : Nat} {x : E2} (hx : l[k]? = some x) (h : okK x = false) : false = lkB l := (sq_bad hx h).symm
theorem lk_off {l : List E2} {k : Nat} {x y : E2} (hk : 0 < k) (hy : l[k - 1]? = some y) (hx : l[k]? = some x) (h : ¬ y.a < x.a) : false = lkB l := (sq_off hk hy hx (folK_no h)).symm
theorem lk_all {l : List E2} {n : Nat} (hn : l.length = n) (h : Pri okK folK l n) : true = lkB l := (sq_all hn h).symm
set_option maxRecDepth 100000 in
set_option maxHeartbeats 3200000 in
theorem spec_are {w : World} {B n c : Nat} {A : Option Addr} {l : List E2} (hn : n ≤ 140737488355328) (h1 : Vs w B A n l) (hB : B ≤ w.heap.size) :
    Calls Tryz.prog 14 #[.slice A n c] w fun e w' => e = .returned (.bool (lkB l)) ∧ Below w.heap.size w w' := by
  have H1 := Lib.hid h1
  have hln := h1.1
  clear h1
  go_enter Tryz.func14, Tryz.ntmps14
  go_wp2
  go_loopw [3] (fun i wr => ∃ k : Nat, k ≤ n ∧ i = .int .i64 k ∧ Pri okK folK l k ∧ Below w.heap.size w wr) (fun i _ => n - (intOf i).toNat)
  case atStart => exact ⟨0, by omega, rfl, pri_zero _ _ l, Below.refl _ _⟩
  case round =>
    obtain ⟨k, hk, rfl, hP, hb⟩ := hrel
    have HP := Lib.hid hP
    have HB := Lib.hid hb
    clear hP
    by_cases hlt : k < n
    · obtain ⟨b, o, x, hA, hbB, hx, a0, a1⟩ := (H1.out.below (below_le hb hB)).at_ hlt
      have HA := Lib.hid hA
      have HX := Lib.hid hx
      rcases hk1 : In 0 5 x.a with _ | _
      · have HK1 := Lib.hid hk1
        subst hA
        clear hk1 hx hb
        go_wp2_with fail
        go_quiet ((go_at_call 16; exact qleft (in_q HK1.out _)))
        go_wp2_with fail
        go_ret
        exact ⟨ret_b (lk_bad HX.out (okK_a HK1.out)), Go.Proofs.YtjnlbhmddhpmaaaGreat.tv.bdrewN HB.out _⟩
      rcases hk2 : In 1 9 x.b with _ | _
      · have HK1 := Lib.hid hk1
        have HK2 := Lib.hid hk2
        subst hA
        clear hk1 hk2 hx hb
        go_wp2_with fail
        go_quiet ((go_at_call 16; first | with_reducible exact qleft (in_q HK1.out _) | with_reducible exact qleft (in_q HK2.out _)))
        go_wp2_with fail
        go_ret
        exact ⟨ret_b (lk_bad HX.out (okK_b HK2.out)), Go.Proofs.YtjnlbhmddhpmaaaGreat.tv.bdrewN HB.out _⟩
      have HK1 := Lib.hid hk1
      have HK2 := Lib.hid hk2
      clear hk1 hk2
      rcases Nat.eq_zero_or_pos k with h0 | h0
      · subst hA
        have t0 : decide ((0 : Int) < (k : Int)) = false := decide_eq_false (by omega)
        have t00 : decide (0 < k) = false := decide_eq_false (by omega)
        have t01 : ¬ 0 < k := by omega
        have H00 := Lib.hid h0
        clear h0 hx hb
        go_wp2_with fail
        go_quiet ((go_at_call 16; first | with_reducible exact qleft (in_q HK1.out _) | with_reducible exact qleft (in_q HK2.out _)))
        go_wp2_with fail
        go_roundw
        case rel => exact ⟨k + 1, by omega, by go_num, pri_step HP.out HX.out (okK_yes HK1.out HK2.out) (fun h => absurd h (by have := H00.out; omega)), Go.Proofs.YtjnlbhmddhpmaaaGreat.tv.bdrewN HB.out _⟩
        case measure => simp [intOf]; omega
      obtain ⟨y, hy, y0, y1⟩ := at_prev (H1.out.below (below_le hb hB)) hA hlt h0
      have HY := Lib.hid hy
      have t0 : decide ((0 : Int) < (k : Int)) = true := decide_eq_true (by omega)
      have e1 : ((k : Int) - 1).toNat = k - 1 := by omega
      have e2 : (0 : Int) ≤ (k : Int) - 1 := by omega
      have e3 : (k : Int) - 1 < (n : Int) := by omega
      subst hA
      clear hx hb hy
      by_cases hf : y.a < x.a
      · have t1 : decide (x.a ≤ y.a) = false := decide_eq_false (by omega)
        have HFL := Lib.hid hf
        clear hf
        go_wp2_with fail
        go_quiet ((go_at_call 16; first | with_reducible exact qleft (in_q HK1.out _) | with_reducible exact qleft (in_q HK2.out _)))
        go_wp2_with fail
        go_roundw
        case rel => exact ⟨k + 1, by omega, by go_num, pri_step HP.out HX.out (okK_yes HK1.out HK2.out) (fun _ z hz => by rw [HY.out] at hz; injection hz with hz; subst hz; exact folK_yes (by have := HFL.out; omega)), Go.Proofs.YtjnlbhmddhpmaaaGreat.tv.bdrewN HB.out _⟩
        case measure => simp [intOf]; omega
      · have t1 : decide (x.a ≤ y.a) = true := decide_eq_true (by omega)
        have HFL := Lib.hid hf
        have H00 := Lib.hid h0
        clear hf
        go_wp2_with fail
        go_quiet ((go_at_call 16; first | with_reducible exact qleft (in_q HK1.out _) | with_reducible exact qleft (in_q HK2.out _)))
        go_wp2_with fail
        go_ret
        exact ⟨ret_b (lk_off H00.out HY.out HX.out (by have := HFL.out; omega)), Go.Proofs.YtjnlbhmddhpmaaaGreat.tv.bdrewN HB.out _⟩
    · obtain rfl : n = k := by omega
      go_wp2_with fail
      go_ret
      exact ⟨ret_b (lk_all hln HP.out), HB.out⟩
set_option maxRecDepth 100000 in
set_option maxHeartbeats 3200000 in
theorem impl_are {w : World} {B n c : Nat} {A : Option Addr} {l : List E2} (hn : n ≤ 140737488355328) (h1 : Vs w B A n l) (hB : B ≤ w.heap.size) :
    Calls Tryz.prog 28 #[.slice A n c] w fun e w' => e = .returned (.bool (lkB l)) ∧ Below w.heap.size w w' := by
  have H1 := Lib.hid h1
  have hln := h1.1
  clear h1
  go_enter Tryz.func28, Tryz.ntmps28
  go_wp2
  go_loopw [7] (fun i wr => ∃ k : Nat, k ≤ n ∧ i = .int .i64 k ∧ Pri okK folK l k ∧ Below w.heap.size w wr) (fun i _ => n - (intOf i).toNat)
  case atStart => exact ⟨0, by omega, rfl, pri_zero _ _ l, Below.refl _ _⟩
  case round =>
    obtain ⟨k, hk, rfl, hP, hb⟩ := hrel
    have HP := Lib.hid hP
    have HB := Lib.hid hb
    clear hP
    by_cases hlt : k < n
    · obtain ⟨b, o, x, hA, hbB, hx, a0, a1⟩ := (H1.out.below (below_le hb hB)).at_ hlt
      have HX := Lib.hid hx
      have hsz := hb.size
      have hn0 := new1 wr (.cells #[.int .i64 x.a, .int .i64 x.b] 60)
      have HB0 : Hid (Below w.heap.size w (wr.alloc (.cells #[.int .i64 x.a, .int .i64 x.b] 60))) := Lib.hid (hb.trans (hn0.mono hsz))
      rcases hk1 : In 0 5 x.a with _ | _
      · have HK1 := Lib.hid hk1
        subst hA
        clear hk1 hx hb hn0 hsz
        go_wp2_with (first | (go_at_call 50; refine (key_q HK1.out _).mono ?_; rintro e w9 ⟨rfl, rfl⟩) | fail)
        go_ret
        exact ⟨ret_b (lk_bad HX.out (okK_a HK1.out)), HB0.out⟩
      rcases hk2 : In 1 9 x.b with _ | _
      · have HK1 := Lib.hid hk1
        have HK2 := Lib.hid hk2
        subst hA
        clear hk1 hk2 hx hb hn0 hsz
        go_wp2_with (first | (go_at_call 50; refine (key_q HK1.out _).mono ?_; rintro e w9 ⟨rfl, rfl⟩) | (go_at_call 51; refine (id_q HK2.out _).mono ?_; rintro e w9 ⟨rfl, rfl⟩) | fail)
        go_ret
        exact ⟨ret_b (lk_bad HX.out (okK_b HK2.out)), HB0.out⟩
      have HK1 := Lib.hid hk1
      have HK2 := Lib.hid hk2
      clear hk1 hk2
      rcases Nat.eq_zero_or_pos k with h0 | h0
      · subst hA
        have t0 : decide ((0 : Int) < (k : Int)) = false := decide_eq_false (by omega)
        have t00 : decide (0 < k) = false := decide_eq_false (by omega)
        have t01 : ¬ 0 < k := by omega
        have H00 := Lib.hid h0
        clear h0 hx hb hn0 hsz
        go_wp2_with (first | (go_at_call 50; refine (key_q HK1.out _).mono ?_; rintro e w9 ⟨rfl, rfl⟩) | (go_at_call 51; refine (id_q HK2.out _).mono ?_; rintro e w9 ⟨rfl, rfl⟩) | fail)
        go_quiet (fail)
        go_wp2_with fail
        go_roundw
        case rel => exact ⟨k + 1, by omega, by go_num, pri_step HP.out HX.out (okK_yes HK1.out HK2.out) (fun h => absurd h (by have := H00.out; omega)), Go.Proofs.YtjnlbhmddhpmaaaGreat.tv.bdrewN HB0.out _⟩
        case measure => simp [intOf]; omega
      obtain ⟨y, hy, hya⟩ := at_prev (H1.out.below (below_le hb hB)) hA hlt h0
      obtain ⟨y0, y1⟩ := hya.keep (by omega) hn0
      have HY := Lib.hid hy
      have t0 : decide ((0 : Int) < (k : Int)) = true := decide_eq_true (by omega)
      have e1 : ((k : Int) - 1).toNat = k - 1 := by omega
      have e2 : (0 : Int) ≤ (k : Int) - 1 := by omega
      have e3 : (k : Int) - 1 < (n : Int) := by omega
      obtain ⟨z0, z1⟩ := atFlat (boxed wr x 60)
      subst hA
      clear hx hb hy hn0 hsz hya
      by_cases hf : y.a < x.a
      · have t1 : decide (x.a ≤ y.a) = false := decide_eq_false (by omega)
        have HFL := Lib.hid hf
        clear hf
        go_wp2_with (first | (go_at_call 50; refine (key_q HK1.out _).mono ?_; rintro e w9 ⟨rfl, rfl⟩) | (go_at_call 51; refine (id_q HK2.out _).mono ?_; rintro e w9 ⟨rfl, rfl⟩) | fail)
        go_quiet (fail)
        go_wp2_with fail
        go_roundw
        case rel => exact ⟨k + 1, by omega, by go_num, pri_step HP.out HX.out (okK_yes HK1.out HK2.out) (fun _ z hz => by rw [HY.out] at hz; injection hz with hz; subst hz; exact folK_yes (by have := HFL.out; omega)), Go.Proofs.YtjnlbhmddhpmaaaGreat.tv.bdrewN HB0.out _⟩
        case measure => simp [intOf]; omega
      · have t1 : decide (x.a ≤ y.a) = true := decide_eq_true (by omega)
        have HFL := Lib.hid hf
        have H00 := Lib.hid h0
        clear hf
        go_wp2_with (first | (go_at_call 50; refine (key_q HK1.out _).mono ?_; rintro e w9 ⟨rfl, rfl⟩) | (go_at_call 51; refine (id_q HK2.out _).mono ?_; rintro e w9 ⟨rfl, rfl⟩) | fail)
        go_quiet (fail)
        go_wp2_with fail
        go_ret
        exact ⟨ret_b (lk_off H00.out HY.out HX.out (by have := HFL.out; omega)), Go.Proofs.YtjnlbhmddhpmaaaGreat.tv.bdrewN HB0.out _⟩
    · obtain rfl : n = k := by omega
      go_wp2_with fail
      go_ret
      exact ⟨ret_b (lk_all hln HP.out), HB.out⟩
end Go.Proofs.YtjnlbhmddhpmaaaGreat.lka
/- The test of a wait, AreWaits of the program and of the model: what each answers; nothing that was there is written. -/
namespace Go.Proofs.YtjnlbhmddhpmaaaGreat.wta
open Go.ChangeShapes Go.WideShapes Go.ChangeAt Go.RowKit
open Go.Proofs.YtjnlbhmddhpmaaaGreat.el2 Go.Proofs.YtjnlbhmddhpmaaaGreat.seq Go.Proofs.YtjnlbhmddhpmaaaGreat.lk Go.Proofs.YtjnlbhmddhpmaaaGreat.wt
open Go.Proofs.YtjnlbhmddhpmaaaGreat.tv (class_region class_opk class_skipk class_call class_end)
open Go.Proofs.YtjnlbhmddhpmaaaGreat.vers (In in_yes in_no in_of in_off in_range ret_b)
open Go.Proofs.YtjnlbhmddhpmaaaGreat.lka (in_q is_id id_q at_prev)
open Go.Proofs.YtjnlbhmddhpmaaaGreat.rx (qleft)
set_option linter.unusedVariables false
set_option linter.unusedSimpArgs false
theorem wt_bad {l : List E2} {k : Nat} {x : E2} (hx : l[k]? = some x) (h : okT x = false) : false = wtB l := (sq_bad hx h).symm
theorem wt_off {l : List E2} {k : Nat} {x y : E2} (hk : 0 < k) (hy : l[k - 1]? = some y) (hx : l[k]? = some x) (h : ¬ y.a < x.a) : false = wtB l := (sq_off hk hy hx (folK_no h)).symm
theorem wt_all {l : List E2} {n : Nat} (hn : l.length = n) (h : Pri okT folK l n) : true = wtB l := (sq_all hn h).symm
set_option maxRecDepth 100000 in
set_option maxHeartbeats 800000 in
theorem valid_k (x : E2) (w : World) :
    Calls Tryz.prog 52 #[.agg #[.int .i64 x.a, .int .i64 x.b]] w fun e w' => e = .returned (.bool (okT x)) ∧ Below w.heap.size w w' := by
  have hn0 := new1 w (.cells #[.int .i64 x.a, .int .i64 x.b] 62)
  obtain ⟨z0, z1⟩ := atFlat (boxed w x 62)
  go_enter Tryz.func52, Tryz.ntmps52
  rcases h1 : In 1 9 x.a with _ | _
  · have HK1 := Lib.hid h1
    clear h1
    go_wp2_with (first | (go_at_call 51; with_reducible refine (id_q HK1.out _).mono ?_; (rintro e w9 ⟨rfl, rfl⟩)) | fail)
    go_ret
    exact ⟨ret_b (okT_a HK1.out).symm, hn0⟩
  rcases h2 : In 1 9 x.b with _ | _
  · have HK1 := Lib.hid h1
    have HK2 := Lib.hid h2
    clear h1 h2
    go_wp2_with (first | (go_at_call 51; with_reducible refine (id_q HK1.out _).mono ?_; (rintro e w9 ⟨rfl, rfl⟩)) | (go_at_call 51; with_reducible refine (id_q HK2.out _).mono ?_; (rintro e w9 ⟨rfl, rfl⟩)) | fail)
    go_ret
    exact ⟨ret_b (okT_b HK2.out).symm, hn0⟩
  have HK1 := Lib.hid h1
  have HK2 := Lib.hid h2
  clear h1 h2
  by_cases h3 : x.a = x.b
  · have t : (x.a != x.b) = false := by simpa using h3
    have HK3 := Lib.hid h3
    clear h3
    go_wp2_with (first | (go_at_call 51; with_reducible refine (id_q HK1.out _).mono ?_; (rintro e w9 ⟨rfl, rfl⟩)) | (go_at_call 51; with_reducible refine (id_q HK2.out _).mono ?_; (rintro e w9 ⟨rfl, rfl⟩)) | fail)
    go_ret
    exact ⟨ret_b (okT_c HK3.out).symm, hn0⟩
  · have t : (x.a != x.b) = true := by simpa using h3
    have HK3 := Lib.hid h3
    clear h3
    go_wp2_with (first | (go_at_call 51; with_reducible refine (id_q HK1.out _).mono ?_; (rintro e w9 ⟨rfl, rfl⟩)) | (go_at_call 51; with_reducible refine (id_q HK2.out _).mono ?_; (rintro e w9 ⟨rfl, rfl⟩)) | fail)
    go_ret
    exact ⟨ret_b (okT_yes HK1.out HK2.out HK3.out).symm, hn0⟩
set_option maxRecDepth 100000 in
set_option maxHeartbeats 3200000 in
theorem wt_impl {w : World} {B n c : Nat} {A : Option Addr} {l : List E2} (hn : n ≤ 140737488355328) (h1 : Vs w B A n l) (hB : B ≤ w.heap.size) :
    Calls Tryz.prog 29 #[.slice A n c] w fun e w' => e = .returned (.bool (wtB l)) ∧ Below w.heap.size w w' := by
  have H1 := Lib.hid h1
  have hln := h1.1
  clear h1
  go_enter Tryz.func29, Tryz.ntmps29
  go_wp2
  go_loopw [7] (fun i wr => ∃ k : Nat, k ≤ n ∧ i = .int .i64 k ∧ Pri okT folK l k ∧ Below w.heap.size w wr) (fun i _ => n - (intOf i).toNat)
  case atStart => exact ⟨0, by omega, rfl, pri_zero _ _ l, Below.refl _ _⟩
  case round =>
    obtain ⟨k, hk, rfl, hP, hb⟩ := hrel
    have HP := Lib.hid hP
    clear hP
    by_cases hlt : k < n
    case neg =>
      obtain rfl : n = k := by omega
      have HB := Lib.hid hb
      clear hb
      go_wp2_with fail
      go_ret
      exact ⟨ret_b (wt_all hln HP.out), HB.out⟩
    case pos =>
      obtain ⟨b, o, x, rfl, hbB, hx, a0, a1⟩ := (H1.out.below (below_le hb hB)).at_ hlt
      have HB := Lib.hid hb
      have HX := Lib.hid hx
      clear hb hx
      rcases ho : okT x with _ | _
      · have HO := Lib.hid ho
        clear ho
        go_wp2_with fail
        have q0 := new1 wr (.cells #[.int .i64 x.a, .int .i64 x.b] 62)
        have q1 := boxed wr x 62
        have q2 : wr.heap.size < (wr.alloc (.cells #[.int .i64 x.a, .int .i64 x.b] 62)).heap.size := by simp
        have hbs := HB.out.size
        obtain ⟨N, hN⟩ : ∃ N, N = wr.heap.size := ⟨_, rfl⟩
        simp only [← hN] at q0 q1 q2 hbs ⊢
        generalize wr.alloc (.cells #[.int .i64 x.a, .int .i64 x.b] 62) = wq at q0 q1 q2 ⊢
        have HQ : Hid (Below w.heap.size w wq) := Lib.hid (HB.out.trans (q0.mono hbs))
        have Q1 := Lib.hid q1
        clear a0 a1 hN q0 q1
        refine class_region wq.heap.size (by kernel_rfl) (by kernel_rfl) ?_
        with_reducible refine class_opk (.agg #[.int .i64 x.a, .int .i64 x.b]) ?_ ?_ ?_
        · first | exact rfl | go_simp
        · intro W hW
          obtain ⟨g0, g1⟩ := atFlat (Q1.out.keep (B := wq.heap.size) q2 hW)
          go_simp
        intro K hK
        go_simp
        with_reducible refine hK _ ?_
        clear hK K
        with_reducible refine class_opk (.bool false) ?_ ?_ ?_
        · first | exact rfl | go_simp
        · intro W hW
          go_simp
          refine class_call hW ?_
          rw [← HO.out]
          exact valid_k _ _
        intro K hK
        go_simp
        with_reducible refine hK _ ?_
        clear hK K
        with_reducible refine class_opk (.bool true) ?_ ?_ ?_
        · first | exact rfl | go_simp
        · intro W hW
          go_simp
        intro K hK
        go_simp
        with_reducible refine hK _ ?_
        clear hK K
        with_reducible refine class_opk (.bool true) ?_ ?_ ?_
        · first | exact rfl | go_simp
        · intro W hW
          go_simp
        intro K hK
        go_simp
        with_reducible refine hK _ ?_
        clear hK K
        with_reducible refine class_skipk ?_ ?_
        · first | exact rfl | (go_simp; try simp [undef])
        intro K hK
        go_simp
        with_reducible refine hK _ ?_
        clear hK K
        with_reducible refine class_skipk ?_ ?_
        · first | exact rfl | (go_simp; try simp [undef])
        intro K hK
        go_simp
        with_reducible refine hK _ ?_
        clear hK K
        with_reducible refine class_skipk ?_ ?_
        · first | exact rfl | (go_simp; try simp [undef])
        intro K hK
        go_simp
        with_reducible refine hK _ ?_
        clear hK K
        with_reducible refine class_skipk ?_ ?_
        · first | exact rfl | (go_simp; try simp [undef])
        intro K hK
        go_simp
        with_reducible refine hK _ ?_
        clear hK K
        with_reducible refine class_skipk ?_ ?_
        · first | exact rfl | (go_simp; try simp [undef])
        intro K hK
        go_simp
        with_reducible refine hK _ ?_
        clear hK K
        with_reducible refine class_skipk ?_ ?_
        · first | exact rfl | (go_simp; try simp [undef])
        intro K hK
        go_simp
        with_reducible refine hK _ ?_
        clear hK K
        with_reducible refine class_skipk ?_ ?_
        · first | exact rfl | (go_simp; try simp [undef])
        intro K hK
        go_simp
        with_reducible refine hK _ ?_
        clear hK K
        with_reducible refine class_skipk ?_ ?_
        · first | exact rfl | (go_simp; try simp [undef])
        intro K hK
        go_simp
        with_reducible refine hK _ ?_
        clear hK K
        with_reducible refine class_skipk ?_ ?_
        · first | exact rfl | (go_simp; try simp [undef])
        intro K hK
        go_simp
        with_reducible refine hK _ ?_
        clear hK K
        with_reducible refine class_skipk ?_ ?_
        · first | exact rfl | (go_simp; try simp [undef])
        intro K hK
        go_simp
        with_reducible refine hK _ ?_
        clear hK K
        with_reducible refine class_skipk ?_ ?_
        · first | exact rfl | (go_simp; try simp [undef])
        intro K hK
        go_simp
        with_reducible refine hK _ ?_
        clear hK K
        with_reducible refine class_skipk ?_ ?_
        · first | exact rfl | (go_simp; try simp [undef])
        intro K hK
        go_simp
        with_reducible refine hK _ ?_
        clear hK K
        with_reducible refine class_skipk ?_ ?_
        · first | exact rfl | (go_simp; try simp [undef])
        intro K hK
        go_simp
        with_reducible refine hK _ ?_
        clear hK K
        with_reducible refine class_opk (.bool true) ?_ ?_ ?_
        · first | exact rfl | go_simp
        · intro W hW
          go_simp
        intro K hK
        go_simp
        with_reducible refine hK _ ?_
        clear hK K
        with_reducible refine class_end ?_
        intro W1 hW1
        go_simp
        have HB1 : Hid (Below w.heap.size w W1) := Lib.hid (HQ.out.trans (hW1.mono HQ.out.size))
        clear hW1
        go_wp2_with fail
        go_ret
        exact ⟨ret_b (wt_bad HX.out HO.out), HB1.out⟩
      have HO := Lib.hid ho
      clear ho
      by_cases h0 : 0 < k
      · obtain ⟨b', o', y, hbo, hbB', hy, d0, d1⟩ := (H1.out.below (below_le HB.out hB)).at_ (k := k - 1) (by omega)
        injection hbo with hbo
        injection hbo with e1 e2
        subst e1
        subst e2
        have HY := Lib.hid hy
        clear hy
        have s1 : IntKind.i64.wrap ((k : Int) - 1) = (k : Int) - 1 := IntWalk.i64_in _ (by omega)
        have s2 : (0 : Int) ≤ (k : Int) - 1 := by omega
        have s3 : ((k : Int) - 1).toNat = k - 1 := by omega
        have s4 : (k : Int) - 1 < (n : Int) := by omega
        have s5 : (1 : Int) ≤ (k : Int) := by omega
        have hg : decide (0 < k) = true := decide_eq_true h0
        by_cases hlt2 : y.a < x.a
        · have HF := Lib.hid (folK_yes hlt2)
          have s6 : decide (x.a ≤ y.a) = false := decide_eq_false (by omega)
          go_wp2_with fail
          have q0 := new1 wr (.cells #[.int .i64 x.a, .int .i64 x.b] 62)
          have q1 := boxed wr x 62
          have q2 : wr.heap.size < (wr.alloc (.cells #[.int .i64 x.a, .int .i64 x.b] 62)).heap.size := by simp
          have hbs := HB.out.size
          obtain ⟨N, hN⟩ : ∃ N, N = wr.heap.size := ⟨_, rfl⟩
          simp only [← hN] at q0 q1 q2 hbs ⊢
          generalize wr.alloc (.cells #[.int .i64 x.a, .int .i64 x.b] 62) = wq at q0 q1 q2 ⊢
          have E0 : Hid (At wq b (o + (k - 1) * 2) y) := Lib.hid (At.keep ⟨d0, d1⟩ (B := N) (by omega) q0)
          have E1 : b < wq.heap.size := by omega
          clear d0 d1
          have HQ : Hid (Below w.heap.size w wq) := Lib.hid (HB.out.trans (q0.mono hbs))
          have Q1 := Lib.hid q1
          clear a0 a1 hN q0 q1
          refine class_region wq.heap.size (by kernel_rfl) (by kernel_rfl) ?_
          with_reducible refine class_opk (.agg #[.int .i64 x.a, .int .i64 x.b]) ?_ ?_ ?_
          · first | exact rfl | go_simp
          · intro W hW
            obtain ⟨g0, g1⟩ := atFlat (Q1.out.keep (B := wq.heap.size) q2 hW)
            go_simp
          intro K hK
          go_simp
          with_reducible refine hK _ ?_
          clear hK K
          with_reducible refine class_opk (.bool true) ?_ ?_ ?_
          · first | exact rfl | go_simp
          · intro W hW
            go_simp
            refine class_call hW ?_
            rw [← HO.out]
            exact valid_k _ _
          intro K hK
          go_simp
          with_reducible refine hK _ ?_
          clear hK K
          with_reducible refine class_opk (.bool false) ?_ ?_ ?_
          · first | exact rfl | go_simp
          · intro W hW
            go_simp
          intro K hK
          go_simp
          with_reducible refine hK _ ?_
          clear hK K
          with_reducible refine class_opk (.bool false) ?_ ?_ ?_
          · first | exact rfl | go_simp
          · intro W hW
            go_simp
          intro K hK
          go_simp
          with_reducible refine hK _ ?_
          clear hK K
          with_reducible refine class_opk (.int .i64 k) ?_ ?_ ?_
          · first | exact rfl | go_simp
          · intro W hW
            go_simp
          intro K hK
          go_simp
          with_reducible refine hK _ ?_
          clear hK K
          with_reducible refine class_opk (.bool true) ?_ ?_ ?_
          · first | exact rfl | go_simp
          · intro W hW
            go_simp
          intro K hK
          go_simp
          with_reducible refine hK _ ?_
          clear hK K
          with_reducible refine class_opk (.bool true) ?_ ?_ ?_
          · first | exact rfl | go_simp
          · intro W hW
            go_simp
          intro K hK
          go_simp
          with_reducible refine hK _ ?_
          clear hK K
          with_reducible refine class_opk (.pointer (some ⟨N, 0, none⟩)) ?_ ?_ ?_
          · first | exact rfl | go_simp
          · intro W hW
            go_simp
          intro K hK
          go_simp
          with_reducible refine hK _ ?_
          clear hK K
          with_reducible refine class_opk (.int .i64 x.a) ?_ ?_ ?_
          · first | exact rfl | go_simp
          · intro W hW
            obtain ⟨g0, g1⟩ := atFlat (Q1.out.keep (B := wq.heap.size) q2 hW)
            go_simp
          intro K hK
          go_simp
          with_reducible refine hK _ ?_
          clear hK K
          with_reducible refine class_opk (.slice (some ⟨b, o, none⟩) n c) ?_ ?_ ?_
          · first | exact rfl | go_simp
          · intro W hW
            go_simp
          intro K hK
          go_simp
          with_reducible refine hK _ ?_
          clear hK K
          with_reducible refine class_opk (.int .i64 k) ?_ ?_ ?_
          · first | exact rfl | go_simp
          · intro W hW
            go_simp
          intro K hK
          go_simp
          with_reducible refine hK _ ?_
          clear hK K
          with_reducible refine class_opk (.int .i64 ((k : Int) - 1)) ?_ ?_ ?_
          · first | exact rfl | go_simp
          · intro W hW
            go_simp
          intro K hK
          go_simp
          with_reducible refine hK _ ?_
          clear hK K
          with_reducible refine class_opk (.pointer (some ⟨b, o + (k - 1) * 2, none⟩)) ?_ ?_ ?_
          · first | exact rfl | go_simp
          · intro W hW
            go_simp
          intro K hK
          go_simp
          with_reducible refine hK _ ?_
          clear hK K
          with_reducible refine class_opk (.pointer (some ⟨b, o + (k - 1) * 2, none⟩)) ?_ ?_ ?_
          · first | exact rfl | go_simp
          · intro W hW
            go_simp
          intro K hK
          go_simp
          with_reducible refine hK _ ?_
          clear hK K
          with_reducible refine class_opk (.int .i64 y.a) ?_ ?_ ?_
          · first | exact rfl | go_simp
          · intro W hW
            obtain ⟨g0, g1⟩ := E0.out.keep (B := wq.heap.size) E1 hW
            go_simp
          intro K hK
          go_simp
          with_reducible refine hK _ ?_
          clear hK K
          with_reducible refine class_opk (.bool false) ?_ ?_ ?_
          · first | exact rfl | go_simp
          · intro W hW
            go_simp
          intro K hK
          go_simp
          with_reducible refine hK _ ?_
          clear hK K
          with_reducible refine class_opk (.bool false) ?_ ?_ ?_
          · first | exact rfl | go_simp
          · intro W hW
            go_simp
          intro K hK
          go_simp
          with_reducible refine hK _ ?_
          clear hK K
          with_reducible refine class_opk (.bool false) ?_ ?_ ?_
          · first | exact rfl | go_simp
          · intro W hW
            go_simp
          intro K hK
          go_simp
          with_reducible refine hK _ ?_
          clear hK K
          with_reducible refine class_end ?_
          intro W1 hW1
          go_simp
          have HB1 : Hid (Below w.heap.size w W1) := Lib.hid (HQ.out.trans (hW1.mono HQ.out.size))
          clear hW1
          go_wp2_with fail
          go_roundw
          case rel => exact ⟨k + 1, by omega, by go_num, pri_step HP.out HX.out HO.out (fun _ z hz => by have := HY.out; rw [this] at hz; cases hz; exact HF.out), HB1.out⟩
          case measure => simp [intOf]; omega
        · have HF := Lib.hid hlt2
          have s6 : decide (x.a ≤ y.a) = true := decide_eq_true (by omega)
          go_wp2_with fail
          have q0 := new1 wr (.cells #[.int .i64 x.a, .int .i64 x.b] 62)
          have q1 := boxed wr x 62
          have q2 : wr.heap.size < (wr.alloc (.cells #[.int .i64 x.a, .int .i64 x.b] 62)).heap.size := by simp
          have hbs := HB.out.size
          obtain ⟨N, hN⟩ : ∃ N, N = wr.heap.size := ⟨_, rfl⟩
          simp only [← hN] at q0 q1 q2 hbs ⊢
          generalize wr.alloc (.cells #[.int .i64 x.a, .int .i64 x.b] 62) = wq at q0 q1 q2 ⊢
          have E0 : Hid (At wq b (o + (k - 1) * 2) y) := Lib.hid (At.keep ⟨d0, d1⟩ (B := N) (by omega) q0)
          have E1 : b < wq.heap.size := by omega
          clear d0 d1
          have HQ : Hid (Below w.heap.size w wq) := Lib.hid (HB.out.trans (q0.mono hbs))
          have Q1 := Lib.hid q1
          clear a0 a1 hN q0 q1
          refine class_region wq.heap.size (by kernel_rfl) (by kernel_rfl) ?_
          with_reducible refine class_opk (.agg #[.int .i64 x.a, .int .i64 x.b]) ?_ ?_ ?_
          · first | exact rfl | go_simp
          · intro W hW
            obtain ⟨g0, g1⟩ := atFlat (Q1.out.keep (B := wq.heap.size) q2 hW)
            go_simp
          intro K hK
          go_simp
          with_reducible refine hK _ ?_
          clear hK K
          with_reducible refine class_opk (.bool true) ?_ ?_ ?_
          · first | exact rfl | go_simp
          · intro W hW
            go_simp
            refine class_call hW ?_
            rw [← HO.out]
            exact valid_k _ _
          intro K hK
          go_simp
          with_reducible refine hK _ ?_
          clear hK K
          with_reducible refine class_opk (.bool false) ?_ ?_ ?_
          · first | exact rfl | go_simp
          · intro W hW
            go_simp
          intro K hK
          go_simp
          with_reducible refine hK _ ?_
          clear hK K
          with_reducible refine class_opk (.bool false) ?_ ?_ ?_
          · first | exact rfl | go_simp
          · intro W hW
            go_simp
          intro K hK
          go_simp
          with_reducible refine hK _ ?_
          clear hK K
          with_reducible refine class_opk (.int .i64 k) ?_ ?_ ?_
          · first | exact rfl | go_simp
          · intro W hW
            go_simp
          intro K hK
          go_simp
          with_reducible refine hK _ ?_
          clear hK K
          with_reducible refine class_opk (.bool true) ?_ ?_ ?_
          · first | exact rfl | go_simp
          · intro W hW
            go_simp
          intro K hK
          go_simp
          with_reducible refine hK _ ?_
          clear hK K
          with_reducible refine class_opk (.bool true) ?_ ?_ ?_
          · first | exact rfl | go_simp
          · intro W hW
            go_simp
          intro K hK
          go_simp
          with_reducible refine hK _ ?_
          clear hK K
          with_reducible refine class_opk (.pointer (some ⟨N, 0, none⟩)) ?_ ?_ ?_
          · first | exact rfl | go_simp
          · intro W hW
            go_simp
          intro K hK
          go_simp
          with_reducible refine hK _ ?_
          clear hK K
          with_reducible refine class_opk (.int .i64 x.a) ?_ ?_ ?_
          · first | exact rfl | go_simp
          · intro W hW
            obtain ⟨g0, g1⟩ := atFlat (Q1.out.keep (B := wq.heap.size) q2 hW)
            go_simp
          intro K hK
          go_simp
          with_reducible refine hK _ ?_
          clear hK K
          with_reducible refine class_opk (.slice (some ⟨b, o, none⟩) n c) ?_ ?_ ?_
          · first | exact rfl | go_simp
          · intro W hW
            go_simp
          intro K hK
          go_simp
          with_reducible refine hK _ ?_
          clear hK K
          with_reducible refine class_opk (.int .i64 k) ?_ ?_ ?_
          · first | exact rfl | go_simp
          · intro W hW
            go_simp
          intro K hK
          go_simp
          with_reducible refine hK _ ?_
          clear hK K
          with_reducible refine class_opk (.int .i64 ((k : Int) - 1)) ?_ ?_ ?_
          · first | exact rfl | go_simp
          · intro W hW
            go_simp
          intro K hK
          go_simp
          with_reducible refine hK _ ?_
          clear hK K
          with_reducible refine class_opk (.pointer (some ⟨b, o + (k - 1) * 2, none⟩)) ?_ ?_ ?_
          · first | exact rfl | go_simp
          · intro W hW
            go_simp
          intro K hK
          go_simp
          with_reducible refine hK _ ?_
          clear hK K
          with_reducible refine class_opk (.pointer (some ⟨b, o + (k - 1) * 2, none⟩)) ?_ ?_ ?_
          · first | exact rfl | go_simp
          · intro W hW
            go_simp
          intro K hK
          go_simp
          with_reducible refine hK _ ?_
          clear hK K
          with_reducible refine class_opk (.int .i64 y.a) ?_ ?_ ?_
          · first | exact rfl | go_simp
          · intro W hW
            obtain ⟨g0, g1⟩ := E0.out.keep (B := wq.heap.size) E1 hW
            go_simp
          intro K hK
          go_simp
          with_reducible refine hK _ ?_
          clear hK K
          with_reducible refine class_opk (.bool true) ?_ ?_ ?_
          · first | exact rfl | go_simp
          · intro W hW
            go_simp
          intro K hK
          go_simp
          with_reducible refine hK _ ?_
          clear hK K
          with_reducible refine class_opk (.bool true) ?_ ?_ ?_
          · first | exact rfl | go_simp
          · intro W hW
            go_simp
          intro K hK
          go_simp
          with_reducible refine hK _ ?_
          clear hK K
          with_reducible refine class_opk (.bool true) ?_ ?_ ?_
          · first | exact rfl | go_simp
          · intro W hW
            go_simp
          intro K hK
          go_simp
          with_reducible refine hK _ ?_
          clear hK K
          with_reducible refine class_end ?_
          intro W1 hW1
          go_simp
          have HB1 : Hid (Below w.heap.size w W1) := Lib.hid (HQ.out.trans (hW1.mono HQ.out.size))
          clear hW1
          go_wp2_with fail
          go_ret
          exact ⟨ret_b (wt_off h0 HY.out HX.out (by have := HF.out; omega)), HB1.out⟩
      · have hg : decide (0 < k) = false := decide_eq_false h0
        go_wp2_with fail
        have q0 := new1 wr (.cells #[.int .i64 x.a, .int .i64 x.b] 62)
        have q1 := boxed wr x 62
        have q2 : wr.heap.size < (wr.alloc (.cells #[.int .i64 x.a, .int .i64 x.b] 62)).heap.size := by simp
        have hbs := HB.out.size
        obtain ⟨N, hN⟩ : ∃ N, N = wr.heap.size := ⟨_, rfl⟩
        simp only [← hN] at q0 q1 q2 hbs ⊢
        generalize wr.alloc (.cells #[.int .i64 x.a, .int .i64 x.b] 62) = wq at q0 q1 q2 ⊢
        have HQ : Hid (Below w.heap.size w wq) := Lib.hid (HB.out.trans (q0.mono hbs))
        have Q1 := Lib.hid q1
        clear a0 a1 hN q0 q1
        refine class_region wq.heap.size (by kernel_rfl) (by kernel_rfl) ?_
        with_reducible refine class_opk (.agg #[.int .i64 x.a, .int .i64 x.b]) ?_ ?_ ?_
        · first | exact rfl | go_simp
        · intro W hW
          obtain ⟨g0, g1⟩ := atFlat (Q1.out.keep (B := wq.heap.size) q2 hW)
          go_simp
        intro K hK
        go_simp
        with_reducible refine hK _ ?_
        clear hK K
        with_reducible refine class_opk (.bool true) ?_ ?_ ?_
        · first | exact rfl | go_simp
        · intro W hW
          go_simp
          refine class_call hW ?_
          rw [← HO.out]
          exact valid_k _ _
        intro K hK
        go_simp
        with_reducible refine hK _ ?_
        clear hK K
        with_reducible refine class_opk (.bool false) ?_ ?_ ?_
        · first | exact rfl | go_simp
        · intro W hW
          go_simp
        intro K hK
        go_simp
        with_reducible refine hK _ ?_
        clear hK K
        with_reducible refine class_opk (.bool false) ?_ ?_ ?_
        · first | exact rfl | go_simp
        · intro W hW
          go_simp
        intro K hK
        go_simp
        with_reducible refine hK _ ?_
        clear hK K
        with_reducible refine class_opk (.int .i64 k) ?_ ?_ ?_
        · first | exact rfl | go_simp
        · intro W hW
          go_simp
        intro K hK
        go_simp
        with_reducible refine hK _ ?_
        clear hK K
        with_reducible refine class_opk (.bool false) ?_ ?_ ?_
        · first | exact rfl | go_simp
        · intro W hW
          go_simp
        intro K hK
        go_simp
        with_reducible refine hK _ ?_
        clear hK K
        with_reducible refine class_opk (.bool false) ?_ ?_ ?_
        · first | exact rfl | go_simp
        · intro W hW
          go_simp
        intro K hK
        go_simp
        with_reducible refine hK _ ?_
        clear hK K
        with_reducible refine class_skipk ?_ ?_
        · first | exact rfl | (go_simp; try simp [undef])
        intro K hK
        go_simp
        with_reducible refine hK _ ?_
        clear hK K
        with_reducible refine class_skipk ?_ ?_
        · first | exact rfl | (go_simp; try simp [undef])
        intro K hK
        go_simp
        with_reducible refine hK _ ?_
        clear hK K
        with_reducible refine class_skipk ?_ ?_
        · first | exact rfl | (go_simp; try simp [undef])
        intro K hK
        go_simp
        with_reducible refine hK _ ?_
        clear hK K
        with_reducible refine class_skipk ?_ ?_
        · first | exact rfl | (go_simp; try simp [undef])
        intro K hK
        go_simp
        with_reducible refine hK _ ?_
        clear hK K
        with_reducible refine class_skipk ?_ ?_
        · first | exact rfl | (go_simp; try simp [undef])
        intro K hK
        go_simp
        with_reducible refine hK _ ?_
        clear hK K
        with_reducible refine class_skipk ?_ ?_
        · first | exact rfl | (go_simp; try simp [undef])
        intro K hK
        go_simp
        with_reducible refine hK _ ?_
        clear hK K
        with_reducible refine class_skipk ?_ ?_
        · first | exact rfl | (go_simp; try simp [undef])
        intro K hK
        go_simp
        with_reducible refine hK _ ?_
        clear hK K
        with_reducible refine class_skipk ?_ ?_
        · first | exact rfl | (go_simp; try simp [undef])
        intro K hK
        go_simp
        with_reducible refine hK _ ?_
        clear hK K
        with_reducible refine class_skipk ?_ ?_
        · first | exact rfl | (go_simp; try simp [undef])
        intro K hK
        go_simp
        with_reducible refine hK _ ?_
        clear hK K
        with_reducible refine class_opk (.bool false) ?_ ?_ ?_
        · first | exact rfl | go_simp
        · intro W hW
          go_simp
        intro K hK
        go_simp
        with_reducible refine hK _ ?_
        clear hK K
        with_reducible refine class_opk (.bool false) ?_ ?_ ?_
        · first | exact rfl | go_simp
        · intro W hW
          go_simp
        intro K hK
        go_simp
        with_reducible refine hK _ ?_
        clear hK K
        with_reducible refine class_end ?_
        intro W1 hW1
        go_simp
        have HB1 : Hid (Below w.heap.size w W1) := Lib.hid (HQ.out.trans (hW1.mono HQ.out.size))
        clear hW1
        go_wp2_with fail
        go_roundw
        case rel => exact ⟨k + 1, by omega, by go_num, pri_step HP.out HX.out HO.out (fun h => absurd h h0), HB1.out⟩
        case measure => simp [intOf]; omega
set_option maxRecDepth 100000 in
set_option maxHeartbeats 3200000 in
theorem wt_spec {w : World} {B n c : Nat} {A : Option Addr} {l : List E2} (hn : n ≤ 140737488355328) (h1 : Vs w B A n l) (hB : B ≤ w.heap.size) :
    Calls Tryz.prog 15 #[.slice A n c] w fun e w' => e = .returned (.bool (wtB l)) ∧ Below w.heap.size w w' := by
  have H1 := Lib.hid h1
  have hln := h1.1
  clear h1
  go_enter Tryz.func15, Tryz.ntmps15
  go_wp2
  go_loopw [3] (fun i wr => ∃ k : Nat, k ≤ n ∧ i = .int .i64 k ∧ Pri okT folK l k ∧ Below w.heap.size w wr) (fun i _ => n - (intOf i).toNat)
  case atStart => exact ⟨0, by omega, rfl, pri_zero _ _ l, Below.refl _ _⟩
  case round =>
    obtain ⟨k, hk, rfl, hP, hb⟩ := hrel
    have HP := Lib.hid hP
    have HB := Lib.hid hb
    clear hP
    by_cases hlt : k < n
    case neg =>
      obtain rfl : n = k := by omega
      go_wp2_with fail
      go_ret
      exact ⟨ret_b (wt_all hln HP.out), HB.out⟩
    case pos =>
      obtain ⟨b, o, x, hA, hbB, hx, a0, a1⟩ := (H1.out.below (below_le hb hB)).at_ hlt
      have HA := Lib.hid hA
      have HX := Lib.hid hx
      rcases hk1 : In 1 9 x.a with _ | _
      · have HK1 := Lib.hid hk1
        subst hA
        clear hk1 hx hb
        go_wp2_with fail
        go_quiet ((go_at_call 16; with_reducible exact qleft (in_q HK1.out _)))
        go_wp2_with fail
        go_ret
        exact ⟨ret_b (wt_bad HX.out (okT_a HK1.out)), Go.Proofs.YtjnlbhmddhpmaaaGreat.tv.bdrewN HB.out _⟩
      rcases hk2 : In 1 9 x.b with _ | _
      · have HK1 := Lib.hid hk1
        have HK2 := Lib.hid hk2
        subst hA
        clear hk1 hk2 hx hb
        go_wp2_with fail
        go_quiet ((go_at_call 16; first | with_reducible exact qleft (in_q HK1.out _) | with_reducible exact qleft (in_q HK2.out _)))
        go_wp2_with fail
        go_ret
        exact ⟨ret_b (wt_bad HX.out (okT_b HK2.out)), Go.Proofs.YtjnlbhmddhpmaaaGreat.tv.bdrewN HB.out _⟩
      have HK1 := Lib.hid hk1
      have HK2 := Lib.hid hk2
      clear hk1 hk2
      by_cases hab : x.a = x.b
      · have HK3 := Lib.hid hab
        have t9 : (x.a == x.b) = true := by simpa using hab
        subst hA
        clear hab hx hb
        go_wp2_with fail
        go_quiet ((go_at_call 16; first | with_reducible exact qleft (in_q HK1.out _) | with_reducible exact qleft (in_q HK2.out _)))
        go_wp2_with fail
        go_ret
        exact ⟨ret_b (wt_bad HX.out (okT_c HK3.out)), Go.Proofs.YtjnlbhmddhpmaaaGreat.tv.bdrewN HB.out _⟩
      have HK3 := Lib.hid hab
      have t9 : (x.a == x.b) = false := by simpa using hab
      clear hab
      rcases Nat.eq_zero_or_pos k with h0 | h0
      · subst hA
        have t0 : decide ((0 : Int) < (k : Int)) = false := decide_eq_false (by omega)
        have t00 : decide (0 < k) = false := decide_eq_false (by omega)
        have t01 : ¬ 0 < k := by omega
        have H00 := Lib.hid h0
        clear h0 hx hb
        go_wp2_with fail
        go_quiet ((go_at_call 16; first | with_reducible exact qleft (in_q HK1.out _) | with_reducible exact qleft (in_q HK2.out _)))
        go_wp2_with fail
        go_roundw
        case rel => exact ⟨k + 1, by omega, by go_num, pri_step HP.out HX.out (okT_yes HK1.out HK2.out HK3.out) (fun h => absurd h (by have := H00.out; omega)), Go.Proofs.YtjnlbhmddhpmaaaGreat.tv.bdrewN HB.out _⟩
        case measure => simp [intOf]; omega
      obtain ⟨y, hy, y0, y1⟩ := at_prev (H1.out.below (below_le hb hB)) hA hlt h0
      have HY := Lib.hid hy
      have t0 : decide ((0 : Int) < (k : Int)) = true := decide_eq_true (by omega)
      have e1 : ((k : Int) - 1).toNat = k - 1 := by omega
      have e2 : (0 : Int) ≤ (k : Int) - 1 := by omega
      have e3 : (k : Int) - 1 < (n : Int) := by omega
      subst hA
      clear hx hb hy
      by_cases hf : y.a < x.a
      · have t1 : decide (x.a ≤ y.a) = false := decide_eq_false (by omega)
        have HFL := Lib.hid hf
        clear hf
        go_wp2_with fail
        go_quiet ((go_at_call 16; first | with_reducible exact qleft (in_q HK1.out _) | with_reducible exact qleft (in_q HK2.out _)))
        go_wp2_with fail
        go_roundw
        case rel => exact ⟨k + 1, by omega, by go_num, pri_step HP.out HX.out (okT_yes HK1.out HK2.out HK3.out) (fun _ z hz => by rw [HY.out] at hz; injection hz with hz; subst hz; exact folK_yes (by have := HFL.out; omega)), Go.Proofs.YtjnlbhmddhpmaaaGreat.tv.bdrewN HB.out _⟩
        case measure => simp [intOf]; omega
      · have t1 : decide (x.a ≤ y.a) = true := decide_eq_true (by omega)
        have HFL := Lib.hid hf
        have H00 := Lib.hid h0
        clear hf
        go_wp2_with fail
        go_quiet ((go_at_call 16; first | with_reducible exact qleft (in_q HK1.out _) | with_reducible exact qleft (in_q HK2.out _)))
        go_wp2_with fail
        go_ret
        exact ⟨ret_b (wt_off H00.out HY.out HX.out (by have := HFL.out; omega)), Go.Proofs.YtjnlbhmddhpmaaaGreat.tv.bdrewN HB.out _⟩
end Go.Proofs.YtjnlbhmddhpmaaaGreat.wta
/- slices.BinarySearchFunc at waits and findWait: the place of an ID in a rising list of waits, and whether it is there. -/
namespace Go.Proofs.YtjnlbhmddhpmaaaGreat.wtf
open Go.ChangeShapes Go.WideShapes Go.ChangeAt Go.RowKit
open Go.Proofs.YtjnlbhmddhpmaaaGreat.el2 Go.Proofs.YtjnlbhmddhpmaaaGreat.seq Go.Proofs.YtjnlbhmddhpmaaaGreat.pw Go.Proofs.YtjnlbhmddhpmaaaGreat.mw Go.Proofs.YtjnlbhmddhpmaaaGreat.wt Go.Proofs.YtjnlbhmddhpmaaaGreat.cm
set_option linter.unusedVariables false
set_option linter.unusedSimpArgs false
def hitW (key : Int) (l : List E2) : Bool := decide ((l[posW key l]?).map (·.a) = some key)
theorem frontW {l : List E2} {key : Int} {h : Nat} {x : E2} (hs : Asc l) (hx : l[h]? = some x) (hf : x.a < key) : ∀ (j : Nat) (y : E2), j < h + 1 → l[j]? = some y → y.a < key := by
  intro j y hj hy
  rcases Nat.lt_or_ge j h with h1 | h1
  · have hh := lt_get hx
    have hjl := lt_get hy
    have := (List.pairwise_iff_getElem.1 hs) j h hjl hh h1
    rw [List.getElem?_eq_getElem hh] at hx
    rw [List.getElem?_eq_getElem hjl] at hy
    injection hx with hx
    injection hy with hy
    rw [hx, hy] at this
    omega
  · obtain rfl : j = h := by omega
    rw [hx] at hy
    injection hy with hy
    rw [← hy]; exact hf
/-- the search by halves: below i all is in front, from j on nothing is -/
def HalfW (l : List E2) (key : Int) (i j : Nat) : Prop := i ≤ j ∧ j ≤ l.length ∧ (∀ (k : Nat) (x : E2), k < i → l[k]? = some x → x.a < key) ∧ (∀ x, l[j]? = some x → ¬ x.a < key)
theorem halfw_start (l : List E2) (key : Int) : HalfW l key 0 l.length := ⟨by omega, Nat.le_refl _, fun k x h => absurd h (by omega), fun x h => by simp at h⟩
theorem halfw_up {l : List E2} {key : Int} {x : E2} {i j h : Nat} (hs : Asc l) (H : HalfW l key i j) (h1 : h < j) (hx : l[h]? = some x) (hf : x.a < key) : HalfW l key (h + 1) j := ⟨by omega, H.2.1, frontW hs hx hf, H.2.2.2⟩
theorem halfw_down {l : List E2} {key : Int} {x : E2} {i j h : Nat} (H : HalfW l key i j) (h1 : i ≤ h) (h2 : h < j) (hx : l[h]? = some x) (hf : ¬ x.a < key) : HalfW l key i h := ⟨h1, by have := H.2.1; omega, H.2.2.1, fun y hy => by rw [hx] at hy; cases hy; exact hf⟩
theorem halfw_end {l : List E2} {key : Int} {i j : Nat} (H : HalfW l key i j) (h : ¬ i < j) : posW key l = i := by
  have : i = j := by have := H.1; omega
  subst this
  exact posW_is l i (fun k x hk hx => decide_eq_true (H.2.2.1 k x hk hx)) H.2.1 H.2.2.2
theorem hit_yes {l : List E2} {key : Int} {p : Nat} {y : E2} (hp : posW key l = p) (hy : l[p]? = some y) (h : y.a = key) : true = hitW key l := by
  unfold hitW
  rw [hp, hy]
  exact (decide_eq_true (by simp [h])).symm
theorem hit_no {l : List E2} {key : Int} {p : Nat} {y : E2} (hp : posW key l = p) (hy : l[p]? = some y) (h : y.a ≠ key) : false = hitW key l := by
  unfold hitW
  rw [hp, hy]
  exact (decide_eq_false (by simpa using h)).symm
theorem hit_end {l : List E2} {key : Int} {p : Nat} (hp : posW key l = p) (hy : l[p]? = none) : false = hitW key l := by
  unfold hitW
  rw [hp, hy]
  exact (decide_eq_false (by simp)).symm
theorem cmp_neg {a b : Int} (h : a < b) : cmpI a b < 0 := by rw [cmpI_lt h]; omega
theorem cmp_pos {a b : Int} (h : ¬ a < b) : ¬ cmpI a b < 0 := by rcases cmpI_cases a b with ⟨h', e⟩ | ⟨_, e⟩ | ⟨_, e⟩ <;> rw [e] <;> omega
theorem cmp_zero {a b : Int} (h : a = b) : cmpI a b = 0 := cmpI_eq h
theorem cmp_non {a b : Int} (h : a ≠ b) : cmpI a b ≠ 0 := by rcases cmpI_cases a b with ⟨h', e⟩ | ⟨h', e⟩ | ⟨h', e⟩ <;> rw [e] <;> omega
theorem ret_pb {a a' : Int} {b b' : Bool} (h : a = a') (h2 : b = b') : Ending.returned (.tuple #[.int .i64 a, .bool b]) = .returned (.tuple #[.int .i64 a', .bool b']) := by rw [h, h2]
end Go.Proofs.YtjnlbhmddhpmaaaGreat.wtf
/- Own rows of two-integer structs: an element set, a row cut short, the built-in clear. -/
namespace Go.Proofs.YtjnlbhmddhpmaaaGreat.ro
open Go.ChangeShapes Go.WideShapes Go.ChangeAt Go.RowKit
open Go.Proofs.YtjnlbhmddhpmaaaGreat.el2 Go.Proofs.YtjnlbhmddhpmaaaGreat.ap
set_option linter.unusedVariables false
set_option linter.unusedSimpArgs false
theorem Rw.row {w : World} {e : TypeId} {g cap : Nat} {l : List E2} (h : Rw w e g cap l) : l.length ≤ cap ∧ cap ≤ maxLen ∧ ∃ f, w.rowIs g e (cap * 2) f ∧ ∀ (j : Nat) (u : Value), (flat l)[j]? = some u → f j = u := by
  obtain ⟨cur, h1, h2, h3, h4, h5⟩ := h
  refine ⟨h2, h3, fun i => cur[i]?.getD undef, ⟨cur, h1, h4, fun i hi => ?_⟩, fun j u hu => ?_⟩
  · have : i < cur.size := by omega
    simp [this]
  · have hj : j < (flat l).length := by
      obtain ⟨hh, _⟩ := List.getElem?_eq_some_iff.1 hu
      exact hh
    rw [← h5, List.getElem?_take] at hu
    rw [flat_len] at hj
    rw [if_pos hj, Array.getElem?_toList] at hu
    show cur[j]?.getD undef = u
    rw [hu]
    rfl
theorem Rw.of_row {w : World} {e : TypeId} {g cap : Nat} {l : List E2} {f : Nat → Value} (h2 : l.length ≤ cap) (h3 : cap ≤ maxLen) (h : w.rowIs g e (cap * 2) f) (hf : ∀ (j : Nat) (u : Value), (flat l)[j]? = some u → f j = u) : Rw w e g cap l := by
  obtain ⟨cur, h1, h4, h5⟩ := h
  refine ⟨cur, h1, h2, h3, h4, ?_⟩
  apply List.ext_getElem?
  intro j
  rw [List.getElem?_take]
  by_cases hj : j < l.length * 2
  · rw [if_pos hj, Array.getElem?_toList, h5 j (by omega)]
    have hl : j < (flat l).length := by rw [flat_len]; exact hj
    rw [List.getElem?_eq_getElem hl, hf j _ (List.getElem?_eq_getElem hl)]
  · rw [if_neg hj, List.getElem?_eq_none (by rw [flat_len]; omega)]
theorem Rw.cut {w : World} {e : TypeId} {g cap : Nat} {l : List E2} (h : Rw w e g cap l) (k : Nat) : Rw w e g cap (l.take k) := by
  obtain ⟨h2, h3, f, hf, hx⟩ := Rw.row h
  refine Rw.of_row (by rw [List.length_take]; omega) h3 hf fun j u hu => hx j u ?_
  rw [← flat_take, List.getElem?_take] at hu
  split at hu
  · exact hu
  · cases hu
theorem Rw.of_block {w w' : World} {e : TypeId} {g cap : Nat} {l : List E2} (h : Rw w e g cap l) (hk : w'.heap[g]? = w.heap[g]?) : Rw w' e g cap l := by
  obtain ⟨cur, h1, h2⟩ := h
  exact ⟨cur, hk.trans h1, h2⟩
theorem Rw.put {w : World} {e : TypeId} {g cap : Nat} {l : List E2} (h : Rw w e g cap l) {k : Nat} (hk : k < l.length) (y : E2) :
    Rw ((w.setCell ⟨g, k * 2, none⟩ (.int .i64 y.a)).setCell ⟨g, k * 2 + 1, none⟩ (.int .i64 y.b)) e g cap (l.set k y) := by
  obtain ⟨h2, h3, f, hf, hx⟩ := Rw.row h
  refine Rw.of_row (by rw [List.length_set]; exact h2) h3 ((World.rowIs.set hf (k * 2) (.int .i64 y.a)).set (k * 2 + 1) (.int .i64 y.b)) fun j u hu => ?_
  obtain ⟨x, hx2, hu2⟩ := flat_nth hu
  rw [List.getElem?_set] at hx2
  by_cases hc : k = j / 2
  · rw [if_pos hc, if_pos (by omega)] at hx2
    injection hx2 with hx2
    subst hx2
    show (if j = k * 2 + 1 then _ else if j = k * 2 then _ else f j) = u
    rw [hu2]
    by_cases hm : j % 2 = 0
    · rw [if_pos hm, if_neg (by omega), if_pos (by omega)]
    · rw [if_neg hm, if_pos (by omega)]
  · rw [if_neg hc] at hx2
    show (if j = k * 2 + 1 then _ else if j = k * 2 then _ else f j) = u
    rw [if_neg (by omega), if_neg (by omega)]
    refine hx j u ?_
    rw [hu2]
    obtain ⟨fa, fb⟩ := flat_at l (j / 2) x hx2
    by_cases hm : j % 2 = 0
    · rw [if_pos hm, show j = j / 2 * 2 by omega, fa]
      rw [show j / 2 * 2 / 2 * 2 = j / 2 * 2 by omega] at *
    · rw [if_neg hm, show j = j / 2 * 2 + 1 by omega]
      have e1 : (j / 2 * 2 + 1) / 2 = j / 2 := by omega
      first | exact fb | (rw [e1]; exact fb)
theorem Rw.cells {w : World} {e : TypeId} {g cap : Nat} {l : List E2} (h : Rw w e g cap l) {i : Nat} (hi : i < cap * 2) : ∃ u, w.cell? ⟨g, i, none⟩ = some u := by
  obtain ⟨h2, h3, f, hf, hx⟩ := Rw.row h
  exact ⟨_, World.rowIs.cell hf hi⟩
theorem Rw.fz {w : World} {e : TypeId} {g cap : Nat} {l : List E2} (h : Rw w e g cap l) (i : Nat) : w.frozen? ⟨g, i, none⟩ = false := by
  obtain ⟨h2, h3, f, hf, hx⟩ := Rw.row h
  exact World.rowIs.frozen hf i
theorem zero_cells (n : Nat) : (Builtin.zeroCells #[.int .i64 0, .int .i64 0] n).toList = flat (List.replicate n ⟨0, 0⟩) := by
  apply List.ext_getElem?
  intro j
  by_cases hj : j < n * 2
  · have hl : j < (flat (List.replicate n (⟨0, 0⟩ : E2))).length := by rw [flat_len, List.length_replicate]; exact hj
    rw [List.getElem?_eq_getElem hl]
    obtain ⟨x, hx, hu⟩ := flat_nth (List.getElem?_eq_getElem hl)
    rw [List.getElem?_replicate] at hx
    rw [if_pos (by omega)] at hx
    injection hx with hx
    subst hx
    rw [hu]
    have hm : j % 2 = 0 ∨ j % 2 = 1 := by omega
    rcases hm with hm | hm <;> simp [Builtin.zeroCells, hj, hm]
  · have e2 : (flat (List.replicate n (⟨0, 0⟩ : E2)))[j]? = none := List.getElem?_eq_none (by rw [flat_len, List.length_replicate]; omega)
    rw [e2]
    simp [Builtin.zeroCells]
    omega
theorem run_clear_e2 {P : Program} (w : World) (t e ty : TypeId) (ht : P.underlying t = some (.slice e)) (hv : ∀ w, (zeroValue e).run P w = .ok (.agg #[.int .i64 0, .int .i64 0]) w) {g cap n c i : Nat} {l : List E2} (h : Rw w e g cap l) (hi : i < l.length) (hn : n = l.length - i) :
    ∃ w', (Builtin.clear_ #[t] ty #[.slice (some ⟨g, i * 2, none⟩) n c]).run P w = .ok (.tuple #[]) w' ∧ Rw w' e g cap (l.take i) ∧ Off g w w' := by
  obtain ⟨cur, h1, h2, h3, h4, h5⟩ := id h
  have hz : (flat (List.replicate n (⟨0, 0⟩ : E2))).length = n * 2 := by rw [flat_len, List.length_replicate]
  have hst := run_storeCells_at P g (i * 2) e (flat (List.replicate n ⟨0, 0⟩)) 0 cur w h1 (by rw [hz]; omega) (flat_one _)
  refine ⟨_, ?_, ?_, set_off (w := w) (g := g) ((cur.toList.take (i * 2) ++ flat (List.replicate n ⟨0, 0⟩) ++ cur.toList.drop (i * 2 + (flat (List.replicate n (⟨0, 0⟩ : E2))).length)).toArray)⟩
  · have hn0 : n ≠ 0 := by omega
    cases n with
    | zero => omega
    | succ m =>
      have hst' := hst
      simp at hst'
      simp [Builtin.clear_, run_underlying ht, hv, zero_cells, Value.cells, hst']
  · obtain ⟨hl, hx⟩ := lay_in (l := l) (p := List.replicate n ⟨0, 0⟩) (k := i) (cap := cap) h5 (by simpa using h4) h2 (by rw [List.length_replicate]; omega)
    have hr := Rw.lay (l := l) (l' := l.take i ++ List.replicate n ⟨0, 0⟩ ++ l.drop (i + (List.replicate n (⟨0, 0⟩ : E2)).length)) h1 h3 hl hx (by simp; omega)
    have hc := Rw.cut hr i
    have e9 : (l.take i ++ List.replicate n (⟨0, 0⟩ : E2) ++ l.drop (i + (List.replicate n (⟨0, 0⟩ : E2)).length)).take i = l.take i := by
      rw [List.append_assoc, List.take_append_of_le_length (by rw [List.length_take]; omega), List.take_take, Nat.min_self]
    rw [e9] at hc
    exact hc
end Go.Proofs.YtjnlbhmddhpmaaaGreat.ro
/- slices.Clone and slices.DeleteFunc at waits; ClearWaits of the program and of the model: what each answers, in memory of its own. -/
namespace Go.Proofs.YtjnlbhmddhpmaaaGreat.wtd
open Go.ChangeShapes Go.WideShapes Go.ChangeAt Go.RowKit
open Go.Proofs.YtjnlbhmddhpmaaaGreat.el2 Go.Proofs.YtjnlbhmddhpmaaaGreat.seq Go.Proofs.YtjnlbhmddhpmaaaGreat.lk Go.Proofs.YtjnlbhmddhpmaaaGreat.wt Go.Proofs.YtjnlbhmddhpmaaaGreat.fr Go.Proofs.YtjnlbhmddhpmaaaGreat.ow2 Go.Proofs.YtjnlbhmddhpmaaaGreat.ap Go.Proofs.YtjnlbhmddhpmaaaGreat.ro
open Go.Proofs.YtjnlbhmddhpmaaaGreat.cl (own_empty)
open Go.Proofs.YtjnlbhmddhpmaaaGreat.rx (all_good all_step)
set_option linter.unusedVariables false
set_option linter.unusedSimpArgs false
set_option linter.constructorNameAsVariable false
theorem info_wt : (Tryz.prog.info? 62).map (fun i => (i.zero, i.size, i.bytes)) = some (some (.agg #[.int .i64 0, .int .i64 0]), 2, 16) := by kernel_rfl
/-- the first place where p holds -/
def FirstW (p : E2 → Bool) (l : List E2) (z : Int) : Prop :=
  (z = -1 ∧ ∀ (j : Nat) (y : E2), l[j]? = some y → (!p y) = true) ∨ (∃ (k : Nat) (y : E2), z = k ∧ l[k]? = some y ∧ p y = true ∧ ∀ (j : Nat) (y : E2), j < k → l[j]? = some y → (!p y) = true)
theorem filt_all {p : E2 → Bool} {l : List E2} (h : ∀ (j : Nat) (y : E2), l[j]? = some y → (!p y) = true) : l.filter (fun y => !p y) = l := by
  rw [List.filter_eq_self]
  intro y hy
  obtain ⟨j, hj, rfl⟩ := List.getElem_of_mem hy
  exact h j _ (List.getElem?_eq_getElem hj)
theorem filt_first {p : E2 → Bool} {l : List E2} {k : Nat} {y : E2} (hx : l[k]? = some y) (hy : p y = true) (h : ∀ (j : Nat) (y : E2), j < k → l[j]? = some y → (!p y) = true) : (l.take (k + 1)).filter (fun y => !p y) = l.take k := by
  rw [List.take_add_one, hx, List.filter_append, filt_all (l := l.take k) fun j z hz => ?_]
  · simp [hy]
  · rw [List.getElem?_take] at hz
    split at hz
    · exact h j z (by assumption) hz
    · cases hz
/-- the state of the loop: what is kept stands in front, what is to come stands where it stood -/
structure DelW (p : E2 → Bool) (l r : List E2) (i j : Nat) : Prop where
  len : r.length = l.length
  lt : i + 1 ≤ j
  le : j ≤ l.length
  front : r.take i = (l.take j).filter (fun y => !p y)
  back : ∀ q, j ≤ q → r[q]? = l[q]?
theorem dl_start {p : E2 → Bool} {l : List E2} {k : Nat} {y : E2} (hx : l[k]? = some y) (hy : p y = true) (h : ∀ (j : Nat) (y : E2), j < k → l[j]? = some y → (!p y) = true) : DelW p l l k (k + 1) :=
  ⟨rfl, Nat.le_refl _, lt_get hx, (filt_first hx hy h).symm, fun _ _ => rfl⟩
theorem dl_skip {p : E2 → Bool} {l r : List E2} {i j : Nat} {y : E2} (h : DelW p l r i j) (hx : l[j]? = some y) (hy : p y = true) : DelW p l r i (j + 1) :=
  ⟨h.len, by have := h.lt; omega, lt_get hx, by rw [h.front, List.take_add_one, hx]; simp [hy], fun q hq => h.back q (by omega)⟩
theorem dl_keep {p : E2 → Bool} {l r : List E2} {i j : Nat} {y : E2} (h : DelW p l r i j) (hx : l[j]? = some y) (hy : p y = false) : DelW p l (r.set i y) (i + 1) (j + 1) := by
  have h1 := h.lt
  have h2 := h.len
  have h3 := lt_get hx
  refine ⟨by rw [List.length_set]; exact h2, by omega, h3, ?_, fun q hq => ?_⟩
  · rw [List.take_add_one, List.take_set_of_le (by omega), h.front, List.getElem?_set_self (by omega), List.take_add_one, hx]
    simp [hy]
  · rw [List.getElem?_set_ne (by omega)]
    exact h.back q (by omega)
theorem dl_end {p : E2 → Bool} {l r : List E2} {i : Nat} (h : DelW p l r i l.length) : r.take i = l.filter (fun y => !p y) := by rw [h.front, List.take_length]
theorem zero_wt : ∀ w : World, (zeroValue 62).run Tryz.prog w = .ok (.agg #[.int .i64 0, .int .i64 0]) w := fun _ => by kernel_rfl
/-! ReleaseLocks -/
def hitB (o : Int) (x : E2) : Bool := decide (x.a = o) || decide (x.b = o)
theorem hitB_a {o : Int} {x : E2} (h : x.a = o) : hitB o x = true := by simp [hitB, h]
theorem hitB_b {o : Int} {x : E2} (h : x.b = o) : hitB o x = true := by simp [hitB, h]
theorem hitB_no {o : Int} {x : E2} (h : x.a ≠ o) (h2 : x.b ≠ o) : hitB o x = false := by simp [hitB, h, h2]
theorem clr_fil (o : Int) (l : List E2) : clrL o l = l.filter fun y => !hitB o y := by
  unfold clrL
  congr 1
  funext y
  simp [hitB]
theorem clr_nil (o : Int) : clrL o [] = [] := rfl
theorem clr_step {l : List E2} {o : Int} {k : Nat} {y : E2} (hx : l[k]? = some y) (h : hitB o y = false) : clrL o (l.take k) ++ [y] = clrL o (l.take (k + 1)) := by
  rw [List.take_add_one, hx, clr_fil, clr_fil]
  simp [List.filter_append, h]
theorem clr_skip {l : List E2} {o : Int} {k : Nat} {y : E2} (hx : l[k]? = some y) (h : hitB o y = true) : clrL o (l.take k) = clrL o (l.take (k + 1)) := by
  rw [List.take_add_one, hx, clr_fil, clr_fil]
  simp [List.filter_append, h]
theorem clr_small (o : Int) (l : List E2) (k : Nat) : (clrL o (l.take k)).length ≤ k := Nat.le_trans (clr_len o _) (by rw [List.length_take]; omega)
theorem one_vw {w : World} {x : E2} {b : Nat} (h : At w b 0 x) : Vs w (b + 1) (some ⟨b, 0, none⟩) 1 [x] := ⟨rfl, fun _ => ⟨b, 0, rfl, by omega, fun k y hy => by
  have hk := lt_get hy
  obtain rfl : k = 0 := by simpa using hk
  simp at hy
  subst hy
  exact h⟩⟩
theorem grown_w {w w' : World} {base n : Nat} {v : Value} {xs : List Value} (ho : w.ownsRow base 62 2 v n xs) (hg : w.grownBy w' v.ownBlock) (hb : base ≤ w.heap.size) : Below base w w' :=
  (Below.refl _ _).grown hg hb fun q hq => (ho.lt q hq).1
end Go.Proofs.YtjnlbhmddhpmaaaGreat.wtd
/- Appending to rows of the call's own, as steps of a region that draws its order; a mark put between two parts of a list. -/
namespace Go.Proofs.YtjnlbhmddhpmaaaGreat.ao
open Go.ChangeShapes Go.WideShapes Go.ChangeAt Go.RowKit
open Go.Proofs.YtjnlbhmddhpmaaaGreat.el2 Go.Proofs.YtjnlbhmddhpmaaaGreat.tx Go.Proofs.YtjnlbhmddhpmaaaGreat.seq Go.Proofs.YtjnlbhmddhpmaaaGreat.tv Go.Proofs.YtjnlbhmddhpmaaaGreat.tf Go.Proofs.YtjnlbhmddhpmaaaGreat.ap Go.Proofs.YtjnlbhmddhpmaaaGreat.bx Go.Proofs.YtjnlbhmddhpmaaaGreat.cl Go.Proofs.YtjnlbhmddhpmaaaGreat.lc Go.Proofs.YtjnlbhmddhpmaaaGreat.rx
set_option linter.unusedVariables false
set_option linter.unusedSimpArgs false
/-- an append whose run is known, as one step of a region that draws -/
theorem step_append_run {P : Program} {ops : Array Oper} {o : Oper} {a : Act} {w : World} {K : Act → World → Prop} {Q : Exit → Act → World → Prop} {E : Prop} (hgd : o.guard = none) (s x : Operand) (t t' : TypeId)
    (hop : o.op = .call { callee := .builtin .append, args := #[s, x], argTypes := #[t, t'] }) (v u : Value) (hs : a.eval s = v) (hx : a.eval x = u) {v' : Value} {w' : World} (hr : (Builtin.append_ #[t, t'] o.type #[v, u]).run P w = .ok v' w') (hK : K (a.put o.dst v') w') :
    if Region.wanted o (yielded ops a.tmps) = true then Oper.wp P o a w K Q else E := by
  have hw : Region.wanted o (yielded ops a.tmps) = true := by simp [Region.wanted, hgd]
  rw [if_pos hw]
  unfold Oper.wp
  simp [execOp, hop, resolve, invoke, builtin, hs, hx, hr, Result.andThen]
  exact hK
/-- an append onto a row of the call's own keeps what lies below, and what lies in another block -/
theorem app_own (V : World) {base k n c0 c B : Nat} {A0 A : Option Addr} {xs l : List E2} (ho : V.ownsRow base 83 2 (.slice A0 k c0) k (flat xs)) (hv : Vs V B A n l) (hk : k + n ≤ 4194304) (hb : base ≤ V.heap.size) :
    ∃ A' c' V', (Builtin.append_ #[52, 52] 52 #[.slice A0 k c0, .slice A n c]).run Tryz.prog V = .ok (.slice A' (k + n) c') V' ∧ V'.ownsRow base 83 2 (.slice A' (k + n) c') (k + n) (flat (xs ++ l)) ∧ V.grownBy V' (Value.slice A0 k c0).ownBlock ∧ Below base V V' := by
  obtain ⟨i0, hi, hz, hs, hby⟩ := info_parts info_rm
  obtain ⟨v', w', hr, ho', hg⟩ := run_append_e2 (P := Tryz.prog) V 52 52 83 i0 _ Tryz.underlying52 hi hz hs hby rfl ho hv (c := c) hk hb
  have hl : (xs ++ l).length = k + n := by have := ho'.1; rw [flat_len] at this; omega
  obtain ⟨A', c', rfl, _⟩ := own_vs ho' hl
  refine ⟨A', c', w', hr, ho', hg, ((Below.refl base V).grown hg hb fun q hq => ?_)⟩
  rcases ho.2 with ⟨e, _⟩ | ⟨g, cap, cur, e, hg', _⟩
  · rw [e] at hq; simp [Value.ownBlock] at hq
  · rw [e] at hq; simp [Value.ownBlock] at hq; omega
theorem one_vs {w : World} {q : Nat} {m : E2} (h : At w q 0 m) : Vs w (q + 1) (some ⟨q, 0, none⟩) 1 [m] := ⟨rfl, fun _ => ⟨q, 0, rfl, by omega, fun k z hz => by
  match k, hz with
  | 0, hz => injection hz with hz; subst hz; exact h⟩⟩
/-- the three appends from a world that has both boxes: the empty row g, the mark's box q -/
theorem run3 (V : World) {base g q B k n c1 c2 : Nat} {A1 A2 : Option Addr} {P D : List E2} {m : E2} (ho : V.ownsRow base 83 2 (.slice (some ⟨g, 0, none⟩) 0 0) 0 (flat [])) (hm : At V q 0 m) (hq : q < V.heap.size) (hqg : q ≠ g) (hP : Vs V B A1 k P) (hD : Vs V B A2 n D) (hB : B ≤ base) (hk : k + n ≤ 2097152) (hb : base ≤ V.heap.size) :
    ∃ A3 c3 W3 A4 c4 W4 A5 c5 W5, (Builtin.append_ #[52, 52] 52 #[.slice (some ⟨g, 0, none⟩) 0 0, .slice A1 k c1]).run Tryz.prog V = .ok (.slice A3 k c3) W3 ∧
      (Builtin.append_ #[52, 52] 52 #[.slice A3 k c3, .slice (some ⟨q, 0, none⟩) 1 1]).run Tryz.prog W3 = .ok (.slice A4 (k + 1) c4) W4 ∧
      (Builtin.append_ #[52, 52] 52 #[.slice A4 (k + 1) c4, .slice A2 n c2]).run Tryz.prog W4 = .ok (.slice A5 (k + 1 + n) c5) W5 ∧
      W5.ownsRow base 83 2 (.slice A5 (k + 1 + n) c5) (k + 1 + n) (flat (P ++ m :: D)) ∧ Below base V W5 := by
  obtain ⟨A3, c3, W3, hr3, ho3, hg3, hb3⟩ := app_own (c := c1) V ho hP (by omega) hb
  rw [Nat.zero_add] at hr3 ho3
  have hm3 : At W3 q 0 m := hm.of_block (hg3.block q hq (by simp [Value.ownBlock]; omega))
  obtain ⟨A4, c4, W4, hr4, ho4, hg4, hb4⟩ := app_own (c := 1) W3 ho3 (one_vs hm3) (by omega) (Nat.le_trans hb hb3.size)
  obtain ⟨A5, c5, W5, hr5, ho5, hg5, hb5⟩ := app_own (c := c2) W4 ho4 (hD.below (below_le (hb3.trans hb4) hB)) (by omega) (Nat.le_trans hb (hb3.trans hb4).size)
  refine ⟨A3, c3, W3, A4, c4, W4, A5, c5, W5, hr3, hr4, hr5, ?_, (hb3.trans hb4).trans hb5⟩
  simp only [List.nil_append, List.append_assoc, List.cons_append] at ho5
  exact ho5
/-- .. where the mark's box is laid behind the first of them -/
theorem run3' (V : World) {base g B k n c1 c2 : Nat} {A1 A2 : Option Addr} {P D : List E2} (m : E2) (ho : V.ownsRow base 83 2 (.slice (some ⟨g, 0, none⟩) 0 0) 0 (flat [])) (hP : Vs V B A1 k P) (hD : Vs V B A2 n D) (hB : B ≤ base) (hk : k + n ≤ 2097152) (hb : base ≤ V.heap.size) :
    ∃ A3 c3 W3 A4 c4 W4 A5 c5 W5, (Builtin.append_ #[52, 52] 52 #[.slice (some ⟨g, 0, none⟩) 0 0, .slice A1 k c1]).run Tryz.prog V = .ok (.slice A3 k c3) W3 ∧
      (Builtin.append_ #[52, 52] 52 #[.slice A3 k c3, .slice (some ⟨W3.heap.size, 0, none⟩) 1 1]).run Tryz.prog (W3.alloc (.cells #[.int .i64 m.a, .int .i64 m.b] 83)) = .ok (.slice A4 (k + 1) c4) W4 ∧
      (Builtin.append_ #[52, 52] 52 #[.slice A4 (k + 1) c4, .slice A2 n c2]).run Tryz.prog W4 = .ok (.slice A5 (k + 1 + n) c5) W5 ∧
      W5.ownsRow base 83 2 (.slice A5 (k + 1 + n) c5) (k + 1 + n) (flat (P ++ m :: D)) ∧ Below base V W5 ∧ Below base V W3 := by
  obtain ⟨A3, c3, W3, hr3, ho3, hg3, hb3⟩ := app_own (c := c1) V ho hP (by omega) hb
  rw [Nat.zero_add] at hr3 ho3
  have hbn := new1 W3 (.cells #[.int .i64 m.a, .int .i64 m.b] 83)
  have hbs := hbn.size
  have hb33 := hb3.size
  obtain ⟨A4, c4, W4, hr4, ho4, hg4, hb4⟩ := app_own (c := 1) (W3.alloc (.cells #[.int .i64 m.a, .int .i64 m.b] 83)) (own_keep ho3 hbn) (one_vs (boxed W3 m 83)) (by omega) (by omega)
  have hb34 := hb3.trans ((hbn.mono (by omega)).trans hb4)
  obtain ⟨A5, c5, W5, hr5, ho5, hg5, hb5⟩ := app_own (c := c2) W4 ho4 (hD.below (below_le hb34 hB)) (by omega) (Nat.le_trans hb hb34.size)
  refine ⟨A3, c3, W3, A4, c4, W4, A5, c5, W5, hr3, hr4, hr5, ?_, hb34.trans hb5, hb3⟩
  simp only [List.nil_append, List.append_assoc, List.cons_append] at ho5
  exact ho5
theorem qleft' {P : Program} {f : FuncId} {args : Array Value} {w : World} {n : Nat} {p q : Bool} (h : Calls P f args (w.drewN n) fun e w' => e = .returned (.bool p) ∧ w.drewN n = w') (hq : p = q) : Calls P f args (w.drewN n) fun e w'' => e = .returned (.bool q) ∧ ∃ m, w'' = w.drewN m := h.mono fun _ _ ⟨he, hm⟩ => ⟨by rw [he, hq], n, hm.symm⟩
theorem Vs.take {w : World} {B n : Nat} {A : Option Addr} {l : List E2} (h : Vs w B A n l) {k : Nat} (hk : k ≤ n) : Vs w B A k (l.take k) := ⟨by rw [List.length_take, h.1]; omega, fun h0 => by
  obtain ⟨b, o, e, hb, hx⟩ := h.2 (by omega)
  refine ⟨b, o, e, hb, fun j x hj => hx j x ?_⟩
  rw [List.getElem?_take] at hj
  split at hj
  · exact hj
  · cases hj⟩
theorem Vs.drop {w : World} {B n b o : Nat} {l : List E2} (h : Vs w B (some ⟨b, o, none⟩) n l) {k : Nat} (hk : k ≤ n) : Vs w B (some ⟨b, o + k * 2, none⟩) (n - k) (l.drop k) := ⟨by rw [List.length_drop, h.1], fun h0 => by
  obtain ⟨b', o', e, hb, hx⟩ := h.2 (by omega)
  injection e with e
  injection e with e1 e2
  subst e1 e2
  refine ⟨b, o + k * 2, rfl, hb, fun j x hj => ?_⟩
  rw [List.getElem?_drop] at hj
  have := hx _ _ hj
  rw [Nat.add_mul, ← Nat.add_assoc] at this
  exact this⟩
end Go.Proofs.YtjnlbhmddhpmaaaGreat.ao
/- slices.Insert of one wait into a row of the call's own. -/
namespace Go.Proofs.YtjnlbhmddhpmaaaGreat.wti
open Go.ChangeShapes Go.WideShapes Go.ChangeAt Go.RowKit
open Go.Proofs.YtjnlbhmddhpmaaaGreat.el2 Go.Proofs.YtjnlbhmddhpmaaaGreat.tx Go.Proofs.YtjnlbhmddhpmaaaGreat.ap Go.Proofs.YtjnlbhmddhpmaaaGreat.bx Go.Proofs.YtjnlbhmddhpmaaaGreat.cl Go.Proofs.YtjnlbhmddhpmaaaGreat.ro
open Go.Proofs.YtjnlbhmddhpmaaaGreat.ao (Vs.take Vs.drop)
open Go.Proofs.YtjnlbhmddhpmaaaGreat.wtd (info_wt)
set_option linter.unusedVariables false
set_option linter.unusedSimpArgs false
/-- an append whose run is known, as one step of a region that draws -/
theorem step_append_run {P : Program} {ops : Array Oper} {o : Oper} {a : Act} {w : World} {K : Act → World → Prop} {Q : Exit → Act → World → Prop} {E : Prop} (hgd : o.guard = none) (s x : Operand) (t t' : TypeId)
    (hop : o.op = .call { callee := .builtin .append, args := #[s, x], argTypes := #[t, t'] }) (v u : Value) (hs : a.eval s = v) (hx : a.eval x = u) {v' : Value} {w' : World} (hr : (Builtin.append_ #[t, t'] o.type #[v, u]).run P w = .ok v' w') (hK : K (a.put o.dst v') w') :
    if Region.wanted o (yielded ops a.tmps) = true then Oper.wp P o a w K Q else E := by
  have hw : Region.wanted o (yielded ops a.tmps) = true := by simp [Region.wanted, hgd]
  rw [if_pos hw]
  unfold Oper.wp
  simp [execOp, hop, resolve, invoke, builtin, hs, hx, hr, Result.andThen]
  exact hK
/-- an append onto a row of the call's own keeps what lies below, and what lies in another block -/
theorem app_x (V : World) {base k n c0 c B : Nat} {A0 A : Option Addr} {xs l : List E2} (ho : V.ownsRow base 62 2 (.slice A0 k c0) k (flat xs)) (hv : Vs V B A n l) (hk : k + n ≤ 4194304) (hb : base ≤ V.heap.size) :
    ∃ A' c' V', (Builtin.append_ #[37, 37] 37 #[.slice A0 k c0, .slice A n c]).run Tryz.prog V = .ok (.slice A' (k + n) c') V' ∧ V'.ownsRow base 62 2 (.slice A' (k + n) c') (k + n) (flat (xs ++ l)) ∧ V.grownBy V' (Value.slice A0 k c0).ownBlock ∧ Below base V V' := by
  obtain ⟨i0, hi, hz, hs, hby⟩ := info_parts info_wt
  obtain ⟨v', w', hr, ho', hg⟩ := run_append_e2 (P := Tryz.prog) V 37 37 62 i0 _ Tryz.underlying37 hi hz hs hby rfl ho hv (c := c) hk hb
  have hl : (xs ++ l).length = k + n := by have := ho'.1; rw [flat_len] at this; omega
  obtain ⟨A', c', rfl, _⟩ := own_vs ho' hl
  refine ⟨A', c', w', hr, ho', hg, ((Below.refl base V).grown hg hb fun q hq => ?_)⟩
  rcases ho.2 with ⟨e, _⟩ | ⟨g, cap, cur, e, hg', _⟩
  · rw [e] at hq; simp [Value.ownBlock] at hq
  · rw [e] at hq; simp [Value.ownBlock] at hq; omega
theorem one_vs {w : World} {q : Nat} {m : E2} (h : At w q 0 m) : Vs w (q + 1) (some ⟨q, 0, none⟩) 1 [m] := ⟨rfl, fun _ => ⟨q, 0, rfl, by omega, fun k z hz => by
  match k, hz with
  | 0, hz => injection hz with hz; subst hz; exact h⟩⟩
theorem wp_copy_run {P : Program} (w : World) {o : Oper} {a : Act} {K : Act → World → Prop} {Q : Exit → Act → World → Prop} (d s : Operand) (t t' : TypeId)
    (ho : o.op = .call { callee := .builtin .copy, args := #[d, s], argTypes := #[t, t'] }) (v u : Value) (hd : a.eval d = v) (hs : a.eval s = u) {v' : Value} {w' : World}
    (hr : (Builtin.copy_ #[t, t'] o.type #[v, u]).run P w = .ok v' w') (h : K (a.put o.dst v') w') : o.wp P a w K Q := by
  unfold Oper.wp execOp
  simp only [ho, resolve, invoke, builtin, Sem.run_bind, Sem.run_pure, Result.andThen_ok, List.map_toArray, List.map_cons, List.map_nil, hd, hs, hr]
  exact h
theorem wpList_copy_run {P : Program} (w : World) {ops : Array Oper} {rest : List Oper} {o : Oper} {a : Act} {Q : Exit → Act → World → Prop} (hgd : o.guard = none) (d s : Operand) (t t' : TypeId)
    (ho : o.op = .call { callee := .builtin .copy, args := #[d, s], argTypes := #[t, t'] }) (v u : Value) (hd : a.eval d = v) (hs : a.eval s = u) {v' : Value} {w' : World}
    (hr : (Builtin.copy_ #[t, t'] o.type #[v, u]).run P w = .ok v' w') (h : wpList P ops Q rest (a.put o.dst v') w') : wpList P ops Q (o :: rest) a w :=
  wpList_plain hgd fun _ hK => wp_copy_run w d s t t' ho v u hd hs hr (hK _ _ h)
theorem step_copy_run {P : Program} {ops : Array Oper} {o : Oper} {a : Act} {w : World} {K : Act → World → Prop} {Q : Exit → Act → World → Prop} {E : Prop}
    (hg : o.guard = none) (d x : Operand) (dT sT : TypeId) (hop : o.op = Op.call { callee := Callee.builtin Builtin.copy, args := #[d, x], argTypes := #[dT, sT] })
    (v u : Value) (hd : a.eval d = v) (hx : a.eval x = u) {v' : Value} {w' : World} (hr : (Builtin.copy_ #[dT, sT] o.type #[v, u]).run P w = .ok v' w') (hK : K (a.put o.dst v') w') :
    if Region.wanted o (yielded ops a.tmps) = true then Oper.wp P o a w K Q else E := by
  have hw : Region.wanted o (yielded ops a.tmps) = true := by simp [Region.wanted, hg]
  rw [if_pos hw]
  unfold Oper.wp
  simp [execOp, hop, resolve, invoke, builtin, hd, hx, hr, Result.andThen]
  exact hK
/-- a copy of a list into a row -/
theorem copy_inw (w : World) {g cap k dl dc sl sc B : Nat} {A : Option Addr} {l l' p : List E2} {n : Nat} (h : Rw w 62 g cap l) (hp : Vs w B A n p) (hn : 0 < n) (hm : n = Nat.min sl dl) (hk : k + n ≤ cap)
    (hl : ∀ C : List Value, C.take (l.length * 2) = flat l → C.length = cap * 2 → (C.take (k * 2) ++ flat p ++ C.drop (k * 2 + (flat p).length)).length = cap * 2 ∧ (C.take (k * 2) ++ flat p ++ C.drop (k * 2 + (flat p).length)).take (l'.length * 2) = flat l') (hl' : l'.length ≤ cap) :
    ∃ w', (Builtin.copy_ #[37, 37] 3 #[.slice (some ⟨g, k * 2, none⟩) dl dc, .slice A sl sc]).run Tryz.prog w = .ok (goInt n) w' ∧ Rw w' 62 g cap l' ∧ Off g w w' := by
  obtain ⟨i0, hi, hz, hs, hby⟩ := info_parts info_wt
  obtain ⟨cur, h1, h2, h3, h4, h5⟩ := h
  obtain ⟨b, o, rfl, hb, hx⟩ := hp.2 hn
  obtain ⟨e1, e2⟩ := hl cur.toList h5 (by simpa using h4)
  have hpl : (flat p).length = n * 2 := by rw [flat_len, hp.1]
  exact ⟨_, run_copy_e2 (P := Tryz.prog) w 37 37 3 62 g (k * 2) dl dc n sl sc ⟨b, o, none⟩ cur 62 (flat p) Tryz.underlying37 hi hs h1 hm hpl (at_cells hx) (by rw [hpl]; omega) (flat_one p), Rw.lay (l := l) h1 h3 e1 e2 hl', set_off _⟩
theorem zc (w : World) (e : TypeId) (X : List E2) (k j G : Nat) (hG : G ≤ maxLen) (hl : X.length + k + j = G) :
    Rw (w.alloc (.cells ((flat X).toArray ++ Builtin.zeroCells #[.int .i64 0, .int .i64 0] k ++ Builtin.zeroCells #[.int .i64 0, .int .i64 0] j) e)) e w.heap.size G (X ++ List.replicate k ⟨0, 0⟩) := by
  refine ⟨_, heap_alloc_new w _, by simp; omega, hG, ?_, ?_⟩
  · have e1 : (flat X).length = X.length * 2 := flat_len X
    have e2 : (Builtin.zeroCells #[.int .i64 0, .int .i64 0] k).toList.length = k * 2 := by rw [zero_cells, flat_len, List.length_replicate]
    have e3 : (Builtin.zeroCells #[.int .i64 0, .int .i64 0] j).toList.length = j * 2 := by rw [zero_cells, flat_len, List.length_replicate]
    rw [Array.length_toList] at e2 e3
    simp only [Array.size_append, List.size_toArray]
    omega
  · simp only [Array.toList_append, zero_cells, ← flat_app]
    rw [flat_take, List.take_append_of_le_length (by simp), List.take_of_length_le (by simp)]
section
variable {l : List E2} {m : E2} {i n : Nat}
theorem ins_a (hl : l.length = n) (hi : i < n) : ((l.take (i + 1) ++ l.drop i).take i ++ [m] ++ (l.take (i + 1) ++ l.drop i).drop (i + 1)) = l.take i ++ m :: l.drop i := by
  rw [List.take_append_of_le_length (by rw [List.length_take]; omega), List.take_take, show min i (i + 1) = i by omega, List.drop_append, List.drop_of_length_le (by rw [List.length_take]; omega), List.length_take, show i + 1 - min (i + 1) l.length = 0 by omega]
  simp
theorem ins_b (hl : l.length = n) (hi : i < n) : ((l.take i ++ List.replicate (n + 1 - i) (⟨0, 0⟩ : E2)).take i ++ [m] ++ (l.take i ++ List.replicate (n + 1 - i) (⟨0, 0⟩ : E2)).drop (i + 1)) = l.take i ++ m :: List.replicate (n - i) (⟨0, 0⟩ : E2) := by
  have e : (l.take i).length = i := by rw [List.length_take]; omega
  rw [List.take_append_of_le_length (by omega), List.take_take, Nat.min_self, List.drop_append, List.drop_of_length_le (by omega), e, List.drop_replicate]
  rw [show n + 1 - i - (i + 1 - i) = n - i by omega]
  simp
theorem ins_c (hl : l.length = n) (hi : i < n) : ((l.take i ++ m :: List.replicate (n - i) (⟨0, 0⟩ : E2)).take (i + 1) ++ l.drop i ++ (l.take i ++ m :: List.replicate (n - i) (⟨0, 0⟩ : E2)).drop (i + 1 + (l.drop i).length)) = l.take i ++ m :: l.drop i := by
  have e : (l.take i).length = i := by rw [List.length_take]; omega
  have e2 : (l.take i ++ m :: List.replicate (n - i) (⟨0, 0⟩ : E2)).drop (i + 1 + (l.drop i).length) = [] := by
    apply List.drop_of_length_le
    simp
    omega
  have e3 : (l.take i ++ m :: List.replicate (n - i) (⟨0, 0⟩ : E2)).take (i + 1) = l.take i ++ [m] := by
    rw [List.take_append, e, List.take_of_length_le (by omega), show i + 1 - i = 1 by omega]
    simp
  rw [e2, e3]
  simp
end
theorem drop_row {w : World} {e : TypeId} {g cap n i : Nat} {l : List E2} (h : Rw w e g cap l) (hn : l.length = n) (hi : i ≤ n) : Vs w w.heap.size (some ⟨g, i * 2, none⟩) (n - i) (l.drop i) := by
  have := Vs.drop (k := i) (B := w.heap.size) (b := g) (o := 0) (n := n) (w := w) (l := l) ⟨hn, fun _ => ⟨g, 0, rfl, h.lt, h.at_⟩⟩ hi
  rw [Nat.zero_add] at this
  exact this
theorem not_frozen_off {w : World} {q : Nat} {cs : Array Value} {t : TypeId} (h : w.heap[q]? = some (.cells cs t (0, 0))) (k : Nat) : w.frozen? ⟨q, k, none⟩ = false := by simp [World.frozen?, h]
/-- the slice's capacity is at hand -/
theorem own_capw {w : World} {base n c : Nat} {A : Option Addr} {l : List E2} (h : w.ownsRow base 62 2 (.slice A n c) n (flat l)) (h0 : 0 < n) : ∃ g, A = some ⟨g, 0, none⟩ ∧ base ≤ g ∧ Rw w 62 g c l ∧ l.length = n ∧ n ≤ c ∧ c ≤ maxLen := by
  obtain ⟨hl, ⟨hv, hn⟩ | ⟨g, cap, hv, hb, hr⟩⟩ := own_rw h
  · subst hn; simp at hl; omega
  · injection hv with e1 e2 e3
    subst e1 e3
    obtain ⟨cur, h1, h2, h3, _⟩ := id hr
    exact ⟨g, rfl, hb, hr, hl, by omega, h3⟩
theorem ret_sl {A : Option Addr} {m m' c : Nat} (h : m = m') : Ending.returned (.slice A m c) = .returned (.slice A m' c) := by rw [h]
theorem Rw.own' {w : World} {e : TypeId} {g cap base n : Nat} {l : List E2} (h : Rw w e g cap l) (hn : l.length = n) (hb : base ≤ g) : w.ownsRow base e 2 (.slice (some ⟨g, 0, none⟩) n cap) n (flat l) := by subst hn; exact Rw.own h hb
theorem ins_len' {l : List E2} {m : E2} {i n : Nat} (hl : l.length = n) (hi : i ≤ n) : (l.take i ++ m :: l.drop i).length = n + 1 := by
  rw [List.length_append, List.length_cons, List.length_take, List.length_drop]; omega
end Go.Proofs.YtjnlbhmddhpmaaaGreat.wti
/- WriteKeys of the program and of the model: what each answers, in memory of its own. -/
namespace Go.Proofs.YtjnlbhmddhpmaaaGreat.wk
open Go.ChangeShapes Go.WideShapes Go.ChangeAt Go.RowKit
open Go.Proofs.YtjnlbhmddhpmaaaGreat.el2 Go.Proofs.YtjnlbhmddhpmaaaGreat.tx Go.Proofs.YtjnlbhmddhpmaaaGreat.seq Go.Proofs.YtjnlbhmddhpmaaaGreat.tv Go.Proofs.YtjnlbhmddhpmaaaGreat.tf Go.Proofs.YtjnlbhmddhpmaaaGreat.bx Go.Proofs.YtjnlbhmddhpmaaaGreat.owi
set_option linter.unusedVariables false
set_option linter.unusedSimpArgs false
noncomputable def wkL (x : Hd) (R S : List E2) : List Int := if txB x R S = true then S.map (·.a) else []
theorem wkL_len (x : Hd) (R S : List E2) : (wkL x R S).length ≤ S.length := by unfold wkL; split <;> simp
theorem wk_yes {x : Hd} {R S : List E2} (h : txB x R S = true) : wkL x R S = S.map (·.a) := by simp [wkL, h]
theorem wk_no {x : Hd} {R S : List E2} (h : txB x R S = false) : wkL x R S = [] := by simp [wkL, h]
theorem ks_step {S : List E2} {k : Nat} {y : E2} (hx : S[k]? = some y) : (S.take k).map (·.a) ++ [y.a] = (S.take (k + 1)).map (·.a) := by
  rw [List.take_add_one, hx]; simp
theorem ks_len {S : List E2} {k : Nat} (h : k ≤ S.length) : ((S.take k).map (·.a)).length = k := by simp [List.length_take]; omega
theorem ks_end {x : Hd} {R S : List E2} {n : Nat} (hn : S.length = n) (hk : 0 < n → txB x R S = true) : (S.take n).map (·.a) = wkL x R S := by
  rcases Nat.eq_zero_or_pos n with h0 | h0
  · subst h0
    obtain rfl : S = [] := List.eq_nil_of_length_eq_zero hn
    simp [wkL]
  · rw [wk_yes (hk h0), List.take_of_length_le (by omega)]
theorem ks_no {x : Hd} {R S : List E2} {k : Nat} (h : txB x R S = false) (hk : 0 < k → txB x R S = true) : (S.take k).map (·.a) = wkL x R S := by
  rcases Nat.eq_zero_or_pos k with h0 | h0
  · subst h0; rw [wk_no h]; simp
  · rw [hk h0] at h; cases h
theorem own_made0 (W : World) (base : Nat) (hb : base ≤ W.heap.size) : (W.alloc (.cells #[] 3)).ownsRow base 3 1 (.slice (some ⟨W.heap.size, 0, none⟩) 0 0) 0 (mi []) :=
  ⟨rfl, .inr ⟨W.heap.size, 0, #[], rfl, hb, heap_alloc_new W _, Nat.le_refl _, by unfold maxLen; omega, rfl, rfl⟩⟩
/-- what the walk goes on with -/
def WL (w : World) (x : Hd) (u v : Value) (W : World) : Prop := Below w.heap.size w W ∧ w.heap.size < W.heap.size ∧ TB W w.heap.size x u v
theorem WL.call {w W W' : World} {x : Hd} {u v : Value} (h : WL w x u v W) (hb : Below W.heap.size W W') : WL w x u v W' := ⟨h.1.trans (hb.mono h.1.size), Nat.lt_of_lt_of_le h.2.1 hb.size, h.2.2.keep h.2.1 hb⟩
theorem WL.grown {w W W' : World} {x : Hd} {u v : Value} (h : WL w x u v W) (hb : Below (w.heap.size + 1) W W') : WL w x u v W' := ⟨h.1.trans (hb.mono (by omega)), Nat.lt_of_lt_of_le h.2.1 hb.size, h.2.2.keep (Nat.lt_succ_self _) hb⟩
theorem grown_i {w w' : World} {base n : Nat} {v : Value} {xs : List Value} (ho : w.ownsRow base 3 1 v n xs) (hg : w.grownBy w' v.ownBlock) (hb : base ≤ w.heap.size) : Below base w w' :=
  (Below.refl _ _).grown hg hb fun q hq => (ho.lt q hq).1
end Go.Proofs.YtjnlbhmddhpmaaaGreat.wk
/- LockOwner and LocksOf of the program and of the model: what each answers. -/
namespace Go.Proofs.YtjnlbhmddhpmaaaGreat.lkr
open Go.ChangeShapes Go.WideShapes Go.ChangeAt Go.RowKit
open Go.Proofs.YtjnlbhmddhpmaaaGreat.el2 Go.Proofs.YtjnlbhmddhpmaaaGreat.seq Go.Proofs.YtjnlbhmddhpmaaaGreat.lk Go.Proofs.YtjnlbhmddhpmaaaGreat.owi
open Go.Proofs.YtjnlbhmddhpmaaaGreat.tf (drop_cons)
open Go.Proofs.YtjnlbhmddhpmaaaGreat.wk (own_made0 grown_i)
set_option linter.unusedVariables false
set_option linter.unusedSimpArgs false
theorem ret_i {a b : Int} (h : a = b) : Ending.returned (.int .i64 a) = .returned (.int .i64 b) := by rw [h]
theorem own_hit {l : List E2} {key : Int} {k : Nat} {x : E2} (h : ownI key l = ownI key (l.drop k)) (hx : l[k]? = some x) (hc : x.a = key) : x.b = ownI key l := by
  rw [h, drop_cons hx]
  simp [ownI, hc]
theorem own_step {l : List E2} {key : Int} {k : Nat} {x : E2} (h : ownI key l = ownI key (l.drop k)) (hx : l[k]? = some x) (hc : x.a ≠ key) : ownI key l = ownI key (l.drop (k + 1)) := by
  rw [h, drop_cons hx]
  simp [ownI, hc]
theorem own_end {l : List E2} {key : Int} {k : Nat} (h : ownI key l = ownI key (l.drop k)) (hk : l.length ≤ k) : (0 : Int) = ownI key l := by
  rw [h, List.drop_eq_nil_of_le hk]
  rfl
/-! the keys of an owner -/
theorem of_step {l : List E2} {o : Int} {k : Nat} {y : E2} (hx : l[k]? = some y) (h : y.b = o) : ofL o (l.take k) ++ [y.a] = ofL o (l.take (k + 1)) := by
  rw [List.take_add_one, hx]
  simp [ofL, List.filter_append, h]
theorem of_skip {l : List E2} {o : Int} {k : Nat} {y : E2} (hx : l[k]? = some y) (h : y.b ≠ o) : ofL o (l.take k) = ofL o (l.take (k + 1)) := by
  rw [List.take_add_one, hx]
  simp [ofL, List.filter_append, h]
theorem of_all {l : List E2} {o : Int} {n : Nat} (h : l.length = n) : ofL o (l.take n) = ofL o l := by rw [List.take_of_length_le (by omega)]
theorem of_small (o : Int) (l : List E2) (k : Nat) : (ofL o (l.take k)).length ≤ k := Nat.le_trans (of_len o _) (by rw [List.length_take]; omega)
end Go.Proofs.YtjnlbhmddhpmaaaGreat.lkr
/- SetWait of the program and of the model: what each answers, in memory of its own. -/
namespace Go.Proofs.YtjnlbhmddhpmaaaGreat.wts
open Go.ChangeShapes Go.WideShapes Go.ChangeAt Go.RowKit
open Go.Proofs.YtjnlbhmddhpmaaaGreat.el2 Go.Proofs.YtjnlbhmddhpmaaaGreat.seq Go.Proofs.YtjnlbhmddhpmaaaGreat.pw Go.Proofs.YtjnlbhmddhpmaaaGreat.mw Go.Proofs.YtjnlbhmddhpmaaaGreat.ap Go.Proofs.YtjnlbhmddhpmaaaGreat.ro Go.Proofs.YtjnlbhmddhpmaaaGreat.wt Go.Proofs.YtjnlbhmddhpmaaaGreat.wta Go.Proofs.YtjnlbhmddhpmaaaGreat.wtf Go.Proofs.YtjnlbhmddhpmaaaGreat.wtd Go.Proofs.YtjnlbhmddhpmaaaGreat.wti
open Go.Proofs.YtjnlbhmddhpmaaaGreat.vers (In in_yes in_no in_of in_off)
open Go.Proofs.YtjnlbhmddhpmaaaGreat.lka (in_q)
open Go.Proofs.YtjnlbhmddhpmaaaGreat.bx (own_more)
open Go.Proofs.YtjnlbhmddhpmaaaGreat.cl (own_empty)
open Go.Proofs.YtjnlbhmddhpmaaaGreat.ao (Vs.take Vs.drop)
open Go.Proofs.YtjnlbhmddhpmaaaGreat.rx (all_step)
set_option linter.unusedVariables false
set_option linter.unusedSimpArgs false
theorem set_bT (l : List E2) (m : E2) : setB l m.a m.b = (wtB l && okT m) := by simp [setB, okT, Bool.and_assoc]
theorem set_badT {l : List E2} {m : E2} (h : wtB l = false ∨ okT m = false) : setB l m.a m.b = false ∧ setL l m.a m.b = l := by
  have e : setB l m.a m.b = false := by rw [set_bT]; rcases h with h | h <;> simp [h]
  exact ⟨e, by unfold setL; rw [e]; exact if_neg fun hh => by cases hh⟩
theorem set_goodT {l : List E2} {m : E2} (hl : wtB l = true) (hm : okT m = true) : setB l m.a m.b = true ∧ setL l m.a m.b = insW m l := by
  have e : setB l m.a m.b = true := by rw [set_bT, hl, hm]; rfl
  exact ⟨e, by unfold setL; rw [e]; exact if_pos rfl⟩
theorem ins_missw {l : List E2} {m : E2} (h : hitW m.a l = false) : insW m l = l.take (posW m.a l) ++ m :: l.drop (posW m.a l) := by
  have := of_decide_eq_false h
  unfold insW
  rw [if_neg this]
theorem ins_hitw {l : List E2} {m : E2} (h : hitW m.a l = true) : posW m.a l < l.length ∧ insW m l = l.set (posW m.a l) m := by
  have h1 := of_decide_eq_true h
  have h2 : posW m.a l < l.length := by
    rcases hg : l[posW m.a l]? with _ | y
    · rw [hg] at h1; cases h1
    · exact lt_get hg
  refine ⟨h2, ?_⟩
  unfold insW
  rw [if_pos h1, List.set_eq_take_append_cons_drop, if_pos h2]
end Go.Proofs.YtjnlbhmddhpmaaaGreat.wts
/- WaitChain of the program and of the model: what each answers, in memory of its own; slices.Contains at integers. -/
namespace Go.Proofs.YtjnlbhmddhpmaaaGreat.wtc
open Go.ChangeShapes Go.WideShapes Go.ChangeAt Go.RowKit
open Go.Proofs.YtjnlbhmddhpmaaaGreat.el2 Go.Proofs.YtjnlbhmddhpmaaaGreat.seq Go.Proofs.YtjnlbhmddhpmaaaGreat.pw Go.Proofs.YtjnlbhmddhpmaaaGreat.mw Go.Proofs.YtjnlbhmddhpmaaaGreat.ints Go.Proofs.YtjnlbhmddhpmaaaGreat.owi Go.Proofs.YtjnlbhmddhpmaaaGreat.wt Go.Proofs.YtjnlbhmddhpmaaaGreat.wta Go.Proofs.YtjnlbhmddhpmaaaGreat.wtf
open Go.Proofs.YtjnlbhmddhpmaaaGreat.vers (In in_yes in_no in_of in_off ret_b)
open Go.Proofs.YtjnlbhmddhpmaaaGreat.lk (ownI own_none own_mem)
open Go.Proofs.YtjnlbhmddhpmaaaGreat.lka (in_q is_id id_q)
open Go.Proofs.YtjnlbhmddhpmaaaGreat.lkr (own_hit own_step own_end)
open Go.Proofs.YtjnlbhmddhpmaaaGreat.wk (own_made0 grown_i)
open Go.Proofs.YtjnlbhmddhpmaaaGreat.bx (own_more)
set_option linter.unusedVariables false
set_option linter.unusedSimpArgs false
theorem ret_i {a b : Int} (h : a = b) : Ending.returned (.int .i64 a) = .returned (.int .i64 b) := by rw [h]
/-! what the search of a wait says of the chain -/
theorem hit_own {l : List E2} {x : Int} (hl : wtB l = true) (h : hitW x l = true) : ∃ y, l[posW x l]? = some y ∧ y.b = ownI x l ∧ 1 ≤ y.b ∧ y.b ≤ 9 := by
  have h1 := of_decide_eq_true h
  rcases hg : l[posW x l]? with _ | y
  · rw [hg] at h1; cases h1
  · rw [hg] at h1
    have e : y.a = x := by simpa using h1
    have hm := List.mem_of_getElem? hg
    refine ⟨y, rfl, ?_, (wt_ok hl hm).2.1⟩
    rw [← e, own_mem (wt_asc hl) hm]
theorem hit_none {l : List E2} {x : Int} (hl : wtB l = true) (h : hitW x l = false) : ownI x l = 0 := own_none fun y hy e => by
  have h1 := of_decide_eq_false h
  have hp : posW x l ≤ l.length := posW_le x l
  have hge := @posW_ge x l (wt_asc hl)
  have hlt := @posW_lt x l
  rw [← List.take_append_drop (posW x l) l] at hy
  rcases List.mem_append.1 hy with hy | hy
  · have := hlt hy; omega
  · obtain ⟨z, r, hz⟩ : ∃ z r, l.drop (posW x l) = z :: r := by
      cases hd : l.drop (posW x l) with
      | nil => rw [hd] at hy; cases hy
      | cons z r => exact ⟨z, r, rfl⟩
    have hg : l[posW x l]? = some z := by
      have : (l.drop (posW x l))[0]? = some z := by rw [hz]; rfl
      rw [List.getElem?_drop] at this
      simpa using this
    have hza : z.a ≠ x := fun e2 => h1 (by rw [hg]; simp [e2])
    have hzge := hge (x := z) (by rw [hz]; simp)
    have hasc : Asc (l.drop (posW x l)) := List.Pairwise.sublist (List.drop_sublist _ _) (wt_asc hl)
    rw [hz] at hasc hy
    rcases List.mem_cons.1 hy with e2 | hy
    · exact hza (by rw [← e2]; exact e)
    · have := (List.pairwise_cons.1 hasc).1 y hy
      omega
theorem is_own {w : World} {base n c : Nat} {A : Option Addr} {xs : List Int} (h : w.ownsRow base 3 1 (.slice A n c) n (mi xs)) (hl : xs.length = n) (hb : base ≤ w.heap.size) : Is w w.heap.size A n xs :=
  (OwI.of_own (lo := base) (hi := w.heap.size) h hl (Nat.le_refl _) (Nat.le_refl _)).is (Nat.le_refl _)
/-! slices.Contains -/
set_option maxRecDepth 100000 in
set_option maxHeartbeats 1600000 in
theorem lib_idx {w : World} {B n c : Nat} {A : Option Addr} {xs : List Int} (x : Int) (hn : n ≤ 1048576) (h : Is w B A n xs) :
    Calls Tryz.prog 73 #[.slice A n c, .int .i64 x] w fun e w' => (∃ z : Int, e = .returned (.int .i64 z) ∧ (0 ≤ z ↔ x ∈ xs)) ∧ w = w' := by
  have H := Lib.hid h
  have hln := h.1
  clear h
  go_enter Tryz.func73, Tryz.ntmps73
  go_wp2_with fail
  go_loop [5, 8] (fun _ i => ∃ k : Nat, k ≤ n ∧ i = .int .i64 k ∧ ∀ (j : Nat) (y : Int), j < k → xs[j]? = some y → y ≠ x) (fun _ i => n - (intOf i).toNat)
  case atStart => exact ⟨0, by omega, rfl, fun j y h => absurd h (by omega)⟩
  case round =>
    obtain ⟨k, hk, rfl, hP⟩ := hrel
    have HP := Lib.hid hP
    clear hP
    by_cases hlt : k < n
    · obtain ⟨b, o, y, rfl, hbB, hy, a0⟩ := H.out.at_ hlt
      have HY := Lib.hid hy
      clear hy
      by_cases hc : x = y
      · have t : (x == y) = true := by simpa using hc
        have HC := Lib.hid hc
        clear hc
        go_wp2_with fail
        go_ret
        exact ⟨⟨k, rfl, ⟨fun _ => by rw [HC.out]; exact List.mem_of_getElem? HY.out, fun _ => by omega⟩⟩, rfl⟩
      · have t : (x == y) = false := by simpa using hc
        have HC := Lib.hid hc
        clear hc
        go_wp2_with fail
        go_round
        case rel => exact ⟨k + 1, by omega, by go_num, fun j z hj hz => by
          rcases Nat.lt_or_ge j k with h9 | h9
          · exact HP.out j z h9 hz
          · obtain rfl : j = k := by omega
            rw [HY.out] at hz
            injection hz with hz
            subst hz
            exact fun e => HC.out e.symm⟩
        case measure => simp [intOf]; omega
    · go_wp2_with fail
      go_ret
      exact ⟨⟨-1, rfl, ⟨fun h => absurd h (by omega), fun hm => by
        obtain ⟨j, hj, e⟩ := List.getElem_of_mem hm
        exact absurd e (HP.out j _ (by omega) (List.getElem?_eq_getElem hj))⟩⟩, rfl⟩
theorem contains_i {w : World} {B n c : Nat} {A : Option Addr} {xs : List Int} (x : Int) (hn : n ≤ 1048576) (h : Is w B A n xs) :
    Calls Tryz.prog 54 #[.slice A n c, .int .i64 x] w fun e w' => e = .returned (.bool (decide (x ∈ xs))) ∧ w = w' := by
  have HF := Lib.hid (lib_idx (c := c) x hn h)
  clear h
  go_enter Tryz.func54, Tryz.ntmps54
  go_wp2_with fail
  refine HF.out.mono ?_
  rintro e W1 ⟨⟨z, rfl, hz⟩, rfl⟩
  have HZ := Lib.hid hz
  clear hz
  go_wp2_with fail
  go_ret
  exact ⟨ret_b (decide_eq_decide.2 HZ.out), rfl⟩
/-! the model's look-up -/
/-! the chain -/
theorem chw_bad {l : List E2} {i : Int} (h : wtB l = false ∨ In 1 9 i = false) : chL l i = [] := by
  unfold chL
  split
  · rename_i h2
    rcases h with h | h
    · rw [h] at h2; cases h2
    · have := in_no h
      unfold chF
      exact if_neg (by omega)
  · rfl
/-- a scope with one label: what holds at the label, and the rest from there on -/
theorem scope_label {P : Program} {a : Act} {w : World} {Q : Exit → Act → World → Prop} {c rest : Code} (l : Nat) (J : Act → World → Prop) (μ : Act → World → Nat) (hf : findLabel c l = some (Code.seq Code.skip rest))
    (pass : ∀ a w, J a w → rest.wp P (Exit.jump l (fun a' w' => J a' w' ∧ μ a' w' < μ a w) Q) a w)
    (first : (∀ a w, J a w → rest.wp P (Exit.jump l J Q) a w) → c.wp P (Exit.jump l J Q) a w) : (Code.scope c).wp P Q a w :=
  wp_scope_jumps l J μ hf (first fun a w h => wp_mono (pass a w h) (fun e a w hq => by
    cases e with
    | goto l' => exact ⟨hq.1, hq.2.1⟩
    | _ => exact hq)) (fun a w h => wp_seq (wp_skip (pass a w h)))
def lenOf : Value → Nat | .slice _ n _ => n | _ => 0
/-- what holds at the label -/
def JW (A : Option Addr) (n c : Nat) (l : List E2) (i : Int) (w : World) : Act → World → Prop := fun a' w' => ∃ (out : List Int) (m : Nat) (x : Int) (A5 : Option Addr) (c5 : Nat) (u2 u3 u6 u7 u8 u9 u10 u11 u12 u13 u14 u15 u16 u17 u18 u19 u20 u21 u22 u23 u24 u25 u26 u27 u28 u29 u30 u31 u32 u33 u34 u35 u36 u37 u38 : Value), a' = { tmps := #[.slice A n c, .int .i64 x, u2, u3, .slice none 0 0, .slice A5 m c5, u6, u7, u8, u9, u10, u11, u12, u13, u14, u15, u16, u17, u18, u19, u20, u21, u22, u23, u24, u25, u26, u27, u28, u29, u30, u31, u32, u33, u34, u35, u36, u37, u38], defers := [] } ∧ out.length = m ∧ Ch l i out x ∧ (1 ≤ x ∧ x ≤ 9) ∧ w'.ownsRow w.heap.size 3 1 (.slice A5 m c5) m (mi out) ∧ Below w.heap.size w w'
end Go.Proofs.YtjnlbhmddhpmaaaGreat.wtc
namespace Go.Proofs.YtjnlbhmddhpmaaaGreat.ivu
open Go.ChangeShapes Go.WideShapes Go.ChangeAt Go.RowKit
open Go.Proofs.YtjnlbhmddhpmaaaGreat.el2 Go.Proofs.YtjnlbhmddhpmaaaGreat.tx Go.Proofs.YtjnlbhmddhpmaaaGreat.seq Go.Proofs.YtjnlbhmddhpmaaaGreat.mkr Go.Proofs.YtjnlbhmddhpmaaaGreat.en Go.Proofs.YtjnlbhmddhpmaaaGreat.eid Go.Proofs.YtjnlbhmddhpmaaaGreat.ts Go.Proofs.YtjnlbhmddhpmaaaGreat.ego
open Go.Proofs.YtjnlbhmddhpmaaaGreat.fnd (impl_ids)
open Go.Proofs.YtjnlbhmddhpmaaaGreat.wtc (contains_i)
open Go.Proofs.YtjnlbhmddhpmaaaGreat.ivp (impl_art)
open Go.Proofs.YtjnlbhmddhpmaaaGreat.tv (class_region class_opk class_call class_skipk)
open Go.Proofs.YtjnlbhmddhpmaaaGreat.val (stB)
open Go.Proofs.YtjnlbhmddhpmaaaGreat.last (lstS)
open Go.Proofs.YtjnlbhmddhpmaaaGreat.lk (lkB)
open Go.Proofs.YtjnlbhmddhpmaaaGreat.wt (wtB)
open Go.Proofs.YtjnlbhmddhpmaaaGreat.ints (Is)
open Go.Proofs.YtjnlbhmddhpmaaaGreat.st (Rs)
open Go.Proofs.YtjnlbhmddhpmaaaGreat.vers (ret_b new2 new3)
open Go.Proofs.YtjnlbhmddhpmaaaGreat.sl (Ver)
set_option linter.unusedVariables false
set_option linter.unusedSimpArgs false
set_option linter.constructorNameAsVariable false
def AllP (p : E2 → Bool) (l : List E2) (k : Nat) : Prop := ∀ (j : Nat) (y : E2), j < k → l[j]? = some y → p y = true
theorem all_step {p : E2 → Bool} {l : List E2} {k : Nat} {x : E2} (h : AllP p l k) (hx : l[k]? = some x) (hp : p x = true) : AllP p l (k + 1) := fun j y hj hy => by
  by_cases e : j = k
  · subst e; rw [hx] at hy; cases hy; exact hp
  · exact h j y (by omega) hy
theorem all_yes {p : E2 → Bool} {l : List E2} {n : Nat} (hn : l.length = n) (h : AllP p l n) : l.all p = true := by
  rw [List.all_eq_true]
  intro t ht
  obtain ⟨k, hk, rfl⟩ := List.getElem_of_mem ht
  exact h k _ (by omega) (List.getElem?_eq_getElem hk)
theorem all_no {p : E2 → Bool} {l : List E2} {k : Nat} {x : E2} (hx : l[k]? = some x) (hp : p x = false) : l.all p = false := by
  rw [List.all_eq_false]
  exact ⟨x, List.mem_of_getElem? hx, by rw [hp]; decide⟩
theorem us_k {T : List Tr} {K X : List E2} (h : (K.all fun m => decide (m.b ∈ idsT 1 T)) = false) : usB T K X = false := by unfold usB; rw [h]; rfl
theorem us_x {T : List Tr} {K X : List E2} (h : (X.all fun m => decide (m.a ∈ idsT 1 T) && decide (m.b ∈ idsT 1 T)) = false) : usB T K X = false := by unfold usB; rw [h]; simp
theorem us_y {T : List Tr} {K X : List E2} (h : (K.all fun m => decide (m.b ∈ idsT 1 T)) = true) (h2 : (X.all fun m => decide (m.a ∈ idsT 1 T) && decide (m.b ∈ idsT 1 T)) = true) : usB T K X = true := by unfold usB; rw [h, h2]; rfl
set_option maxRecDepth 100000 in
set_option maxHeartbeats 6400000 in
theorem impl_us {w : World} {B n1 c1 n2 c2 n3 c3 n4 c4 : Nat} {A1 A2 A3 A4 : Option Addr} {C : List (List Ver)} {L : List Tr} {K X : List E2} (q : Bool) (z : Int) (hn1 : n1 ≤ 2097152) (hn2 : n2 ≤ 2097152) (hn3 : n3 ≤ 2097152) (hn4 : n4 ≤ 2097152) (hL : L.length ≤ 6) (h : ER w B A1 n1 C A2 n2 L A3 n3 K A4 n4 X) (hB : B ≤ w.heap.size) :
    Calls Tryz.prog 30 #[.agg #[.bool q, .slice A1 n1 c1, .slice A2 n2 c2, .slice A3 n3 c3, .slice A4 n4 c4, .int .i64 z]] w fun e w' => e = .returned (.bool (usB L K X)) ∧ Below w.heap.size w w' := by
  have HR := Lib.hid h
  have hlk := h.k.1
  have hlx := h.x.1
  have HLK := Lib.hid hlk
  have HLX := Lib.hid hlx
  have hb := new1 w (.cells #[.bool q, .slice A1 n1 c1, .slice A2 n2 c2, .slice A3 n3 c3, .slice A4 n4 c4, .int .i64 z] 39)
  have he := Go.Proofs.YtjnlbhmddhpmaaaGreat.eg.EB.new w q (.slice A1 n1 c1) (.slice A2 n2 c2) (.slice A3 n3 c3) (.slice A4 n4 c4) z 39
  have hz2 : (w.alloc (.cells #[.bool q, .slice A1 n1 c1, .slice A2 n2 c2, .slice A3 n3 c3, .slice A4 n4 c4, .int .i64 z] 39)).heap.size = w.heap.size + 1 := by simp
  have hlen := ids_len 1 L
  obtain ⟨I, hI⟩ : ∃ I, idsT 1 L = I := ⟨_, rfl⟩
  obtain ⟨m, hm⟩ : ∃ m, I.length = m := ⟨_, rfl⟩
  have hm6 : m ≤ 6 := by rw [hI] at hlen; omega
  have HI := Lib.hid hI
  have HM := Lib.hid hm
  clear h hlk hlx hlen hI hm
  go_enter Tryz.func30, Tryz.ntmps30
  go_wp2_with fail
  generalize w.alloc _ = W0 at hb he hz2 ⊢
  have HB := Lib.hid hb
  have HE := Lib.hid he
  clear hb
  obtain ⟨e0, e1, e2, e3, e4, e5⟩ := he
  try go_wp2_with fail
  refine (impl_ids q z 1 hn1 hn2 hn3 hn4 (HR.out.below (Go.Proofs.YtjnlbhmddhpmaaaGreat.el2.below_le HB.out hB)) (by omega)).mono ?_
  rintro e W1 ⟨A', c', he1, ho, hb⟩
  rw [HI.out, HM.out] at he1 ho
  subst he1
  have hs1 := hb.size
  have HIS := Lib.hid (Go.Proofs.YtjnlbhmddhpmaaaGreat.wtc.is_own ho HM.out (by omega))
  have HB1 := Lib.hid (HB.out.trans (hb.mono HB.out.size))
  have HE1 := Lib.hid (HE.out.keep (B := W0.heap.size) (by omega) hb)
  clear hb ho e0 e1 e2 e3 e4 e5
  obtain ⟨e0, e1, e2, e3, e4, e5⟩ := HE1.out
  go_wp2_with fail
  clear e0 e1 e2 e3 e4 e5
  go_loopw [5, 13] (fun _ i wr => ∃ k : Nat, k ≤ n3 ∧ i = .int .i64 k ∧ AllP (fun m => decide (m.b ∈ idsT 1 L)) K k ∧ Below W1.heap.size W1 wr) (fun _ i _ => n3 - (intOf i).toNat)
  case atStart => exact ⟨0, by omega, rfl, fun j y h => absurd h (by omega), Below.refl _ _⟩
  case round =>
    obtain ⟨k, hk, rfl, hP, hb⟩ := hrel
    have HP := Lib.hid hP
    have HBW := Lib.hid hb
    have hsz := hb.size
    have hbw := HB1.out.trans (hb.mono HB1.out.size)
    clear hP hb
    by_cases hlt : k < n3
    · obtain ⟨b, p, y, rfl, hbB, hx, a0, a1⟩ := (HR.out.k.below (Go.Proofs.YtjnlbhmddhpmaaaGreat.el2.below_le hbw hB)).at_ hlt
      have HX := Lib.hid hx
      have hn1' := new1 wr (.cells #[.int .i64 y.a, .int .i64 y.b] 60)
      have HW2 := Lib.hid (HBW.out.trans (hn1'.mono hsz))
      have HIW := Lib.hid (HIS.out.below HW2.out)
      clear hx hn1' hbw
      generalize hd : decide (y.b ∈ I) = d
      have HD := Lib.hid hd
      clear hd
      cases d with
      | false =>
        have HU : Hid (usB L K X = false) := Lib.hid (us_k (all_no HX.out (by show decide (y.b ∈ idsT 1 L) = false; rw [HI.out]; exact HD.out)))
        go_wp2_with fail
        refine (contains_i y.b (by omega) HIW.out).mono ?_
        rintro e W3 ⟨rfl, rfl⟩
        rw [HD.out]
        go_wp2_with fail
        go_ret
        exact ⟨ret_b HU.out.symm, HB1.out.trans (HW2.out.mono HB1.out.size)⟩
      | true =>
        go_wp2_with fail
        refine (contains_i y.b (by omega) HIW.out).mono ?_
        rintro e W3 ⟨rfl, rfl⟩
        rw [HD.out]
        go_wp2_with fail
        go_roundw
        case rel => exact ⟨k + 1, by omega, by go_num, all_step HP.out HX.out (by show decide (y.b ∈ idsT 1 L) = true; rw [HI.out]; exact HD.out), HW2.out⟩
        case measure => simp [intOf]; omega
    · obtain rfl : n3 = k := by omega
      have HK : Hid ((K.all fun m => decide (m.b ∈ idsT 1 L)) = true) := Lib.hid (all_yes HLK.out HP.out)
      have HE2 := Lib.hid (HE1.out.keep (B := W1.heap.size) (by omega) HBW.out)
      have HI2 := Lib.hid (HIS.out.below HBW.out)
      have HI3 := Lib.hid (HI2.out.more (B' := wr.heap.size) hsz)
      have HB2 := Lib.hid hbw
      clear hbw
      obtain ⟨e0, e1, e2, e3, e4, e5⟩ := HE2.out
      go_wp2_with fail
      clear e0 e1 e2 e3 e4 e5
      go_loopw [7, 26] (fun _ i wx => ∃ k : Nat, k ≤ n4 ∧ i = .int .i64 k ∧ AllP (fun m => decide (m.a ∈ idsT 1 L) && decide (m.b ∈ idsT 1 L)) X k ∧ Below wr.heap.size wr wx) (fun _ i _ => n4 - (intOf i).toNat)
      case atStart => exact ⟨0, by omega, rfl, fun j y h => absurd h (by omega), Below.refl _ _⟩
      case round =>
        obtain ⟨k2, hk2, rfl, hP, hb⟩ := hrel
        have HP2 := Lib.hid hP
        have HBX := Lib.hid hb
        have hsx := hb.size
        have hbw := HB2.out.trans (hb.mono HB2.out.size)
        clear hP hb
        by_cases hlt2 : k2 < n4
        · obtain ⟨b, p, y, rfl, hbB, hx, a0, a1⟩ := (HR.out.x.below (Go.Proofs.YtjnlbhmddhpmaaaGreat.el2.below_le hbw hB)).at_ hlt2
          have HX := Lib.hid hx
          have hn1' := new1 wr (.cells #[.int .i64 y.a, .int .i64 y.b] 62)
          have hbx := boxed wr y 62
          have HW2 := Lib.hid (HBX.out.trans (hn1'.mono hsx))
          have HIW := Lib.hid (HI3.out.below HW2.out)
          clear hx hbw
          generalize hd : decide (y.a ∈ I) = d
          generalize hd2 : decide (y.b ∈ I) = d2
          have HD := Lib.hid hd
          have HD2 := Lib.hid hd2
          clear hd hd2
          cases d with
          | false =>
            have HU : Hid (usB L K X = false) := Lib.hid (us_x (all_no HX.out (by show (decide (y.a ∈ idsT 1 L) && decide (y.b ∈ idsT 1 L)) = false; rw [HI.out, HD.out]; rfl)))
            go_wp2_with fail
            refine (contains_i y.a (by omega) HIW.out).mono ?_
            rintro e W3 ⟨rfl, rfl⟩
            rw [HD.out]
            go_wp2_with fail
            go_ret
            exact ⟨ret_b HU.out.symm, HB2.out.trans (HW2.out.mono HB2.out.size)⟩
          | true =>
          go_wp2_with fail
          refine (contains_i y.a (by omega) HIW.out).mono ?_
          rintro e W3 ⟨rfl, rfl⟩
          rw [HD.out]
          obtain ⟨x0, x1⟩ := atFlat hbx
          go_wp2_with fail
          refine (contains_i y.b (by omega) HIW.out).mono ?_
          rintro e W3 ⟨rfl, rfl⟩
          rw [HD2.out]
          cases d2 with
          | false =>
            have HU : Hid (usB L K X = false) := Lib.hid (us_x (all_no HX.out (by show (decide (y.a ∈ idsT 1 L) && decide (y.b ∈ idsT 1 L)) = false; rw [HI.out, HD.out, HD2.out]; rfl)))
            go_wp2_with fail
            go_ret
            exact ⟨ret_b HU.out.symm, HB2.out.trans (HW2.out.mono HB2.out.size)⟩
          | true =>
            go_wp2_with fail
            go_roundw
            case rel => exact ⟨k2 + 1, by omega, by go_num, all_step HP2.out HX.out (by show (decide (y.a ∈ idsT 1 L) && decide (y.b ∈ idsT 1 L)) = true; rw [HI.out, HD.out, HD2.out]; rfl), HW2.out⟩
            case measure => simp [intOf]; omega
        · obtain rfl : n4 = k2 := by omega
          have HXA : Hid ((X.all fun m => decide (m.a ∈ idsT 1 L) && decide (m.b ∈ idsT 1 L)) = true) := Lib.hid (all_yes HLX.out HP2.out)
          have HBZ := Lib.hid hbw
          clear hbw
          go_wp2_with fail
          go_ret
          exact ⟨ret_b (us_y HK.out HXA.out).symm, HBZ.out⟩
set_option maxRecDepth 100000 in
set_option maxHeartbeats 6400000 in
theorem impl_ive {w : World} {B n1 c1 n2 c2 n3 c3 n4 c4 : Nat} {A1 A2 A3 A4 : Option Addr} {C : List (List Ver)} {L : List Tr} {K X : List E2} (q : Bool) (z : Int) (hn1 : n1 ≤ 2097152) (hn2 : n2 ≤ 2097152) (hn3 : n3 ≤ 2097152) (hn4 : n4 ≤ 2097152) (h : ER w B A1 n1 C A2 n2 L A3 n3 K A4 n4 X) (hB : B ≤ w.heap.size) :
    Calls Tryz.prog 7 #[.agg #[.bool q, .slice A1 n1 c1, .slice A2 n2 c2, .slice A3 n3 c3, .slice A4 n4 c4, .int .i64 z]] w fun e w' => e = .returned (.bool (enB ⟨q, C, L, K, X, z⟩)) ∧ Below w.heap.size w w' := by
  have HR := Lib.hid h
  have HLN := Lib.hid h.t.1
  have hb := new1 w (.cells #[.bool q, .slice A1 n1 c1, .slice A2 n2 c2, .slice A3 n3 c3, .slice A4 n4 c4, .int .i64 z] 39)
  have he := Go.Proofs.YtjnlbhmddhpmaaaGreat.eg.EB.new w q (.slice A1 n1 c1) (.slice A2 n2 c2) (.slice A3 n3 c3) (.slice A4 n4 c4) z 39
  have hlt : w.heap.size < (w.alloc (.cells #[.bool q, .slice A1 n1 c1, .slice A2 n2 c2, .slice A3 n3 c3, .slice A4 n4 c4, .int .i64 z] 39)).heap.size := by simp
  obtain ⟨sb, hsb⟩ : ∃ b, stB C = b := ⟨_, rfl⟩
  obtain ⟨ls, hls⟩ : ∃ b, lstS C = b := ⟨_, rfl⟩
  have HST : Hid (∀ W : World, Below w.heap.size w W → Calls Tryz.prog 25 #[.agg #[.slice A1 n1 c1]] W fun e w' => e = .returned (.bool sb) ∧ Below W.heap.size W w') := Lib.hid fun W hW => by rw [← hsb]; exact Go.Proofs.YtjnlbhmddhpmaaaGreat.val.impl_store (by omega) (HR.out.s.below (Go.Proofs.YtjnlbhmddhpmaaaGreat.sl.below_le hW hB)) (Nat.le_trans hB hW.size)
  have HLS : Hid (∀ W : World, Below w.heap.size w W → Calls Tryz.prog 26 #[.agg #[.slice A1 n1 c1]] W fun e w' => e = .returned (.int .i64 ls) ∧ Below W.heap.size W w') := Lib.hid fun W hW => by rw [← hls]; exact Go.Proofs.YtjnlbhmddhpmaaaGreat.last.impl_last (by omega) (HR.out.s.below (Go.Proofs.YtjnlbhmddhpmaaaGreat.sl.below_le hW hB)) (Nat.le_trans hB hW.size)
  have HEN : Hid (enB ⟨q, C, L, K, X, z⟩ = (sb && Go.Proofs.YtjnlbhmddhpmaaaGreat.vers.In ls 999 z && artB C L z && lkB K && wtB X && usB L K X)) := Lib.hid (by rw [en_eq, hsb, hls])
  clear h hsb hls
  cases sb with
  | false =>
    have HV : Hid (enB ⟨q, C, L, K, X, z⟩ = false) := Lib.hid (by rw [HEN.out]; rfl)
    go_enter Tryz.func7, Tryz.ntmps7
    go_wp2_with fail
    generalize w.alloc _ = W0 at hb he hlt ⊢
    have HB := Lib.hid hb
    have HE := Lib.hid he
    clear hb he
    refine class_region W0.heap.size (by kernel_rfl) (by kernel_rfl) ?_
    with_reducible refine class_opk (.pointer (some ⟨w.heap.size, 1, none⟩)) ?_ ?_ ?_
    · first | exact rfl | go_simp
    · intro W hW
      go_simp
    intro KK hK
    go_simp
    with_reducible refine hK _ ?_
    clear hK KK
    with_reducible refine class_opk (.agg #[.slice A1 n1 c1]) ?_ ?_ ?_
    · first | exact rfl | go_simp
    · intro W hW
      obtain ⟨g0, g1, g2, g3, g4, g5⟩ := HE.out.keep (B := W0.heap.size) hlt hW
      go_simp
    intro KK hK
    go_simp
    with_reducible refine hK _ ?_
    clear hK KK
    with_reducible refine class_opk (.bool false) ?_ ?_ ?_
    · first | exact rfl | go_simp
    · intro W hW
      go_simp
      refine class_call hW ?_
      exact HST.out W (HB.out.trans (hW.mono HB.out.size))
    intro KK hK
    go_simp
    with_reducible refine hK _ ?_
    clear hK KK
    with_reducible refine class_opk (.bool true) ?_ ?_ ?_
    · first | exact rfl | go_simp
    · intro W hW
      go_simp
    intro KK hK
    go_simp
    with_reducible refine hK _ ?_
    clear hK KK
    with_reducible refine class_opk (.bool true) ?_ ?_ ?_
    · first | exact rfl | go_simp
    · intro W hW
      go_simp
    intro KK hK
    go_simp
    with_reducible refine hK _ ?_
    clear hK KK
    with_reducible refine class_skipk ?_ ?_
    · first | exact rfl | (go_simp; try simp [undef])
    intro KK hK
    go_simp
    with_reducible refine hK _ ?_
    clear hK KK
    with_reducible refine class_skipk ?_ ?_
    · first | exact rfl | (go_simp; try simp [undef])
    intro KK hK
    go_simp
    with_reducible refine hK _ ?_
    clear hK KK
    with_reducible refine class_skipk ?_ ?_
    · first | exact rfl | (go_simp; try simp [undef])
    intro KK hK
    go_simp
    with_reducible refine hK _ ?_
    clear hK KK
    with_reducible refine class_skipk ?_ ?_
    · first | exact rfl | (go_simp; try simp [undef])
    intro KK hK
    go_simp
    with_reducible refine hK _ ?_
    clear hK KK
    with_reducible refine class_skipk ?_ ?_
    · first | exact rfl | (go_simp; try simp [undef])
    intro KK hK
    go_simp
    with_reducible refine hK _ ?_
    clear hK KK
    with_reducible refine class_skipk ?_ ?_
    · first | exact rfl | (go_simp; try simp [undef])
    intro KK hK
    go_simp
    with_reducible refine hK _ ?_
    clear hK KK
    with_reducible refine class_opk (.bool true) ?_ ?_ ?_
    · first | exact rfl | go_simp
    · intro W hW
      go_simp
    intro KK hK
    go_simp
    with_reducible refine hK _ ?_
    clear hK KK
    with_reducible refine class_opk (.bool true) ?_ ?_ ?_
    · first | exact rfl | go_simp
    · intro W hW
      go_simp
    intro KK hK
    go_simp
    with_reducible refine hK _ ?_
    clear hK KK
    with_reducible refine class_skipk ?_ ?_
    · first | exact rfl | (go_simp; try simp [undef])
    intro KK hK
    go_simp
    with_reducible refine hK _ ?_
    clear hK KK
    with_reducible refine class_skipk ?_ ?_
    · first | exact rfl | (go_simp; try simp [undef])
    intro KK hK
    go_simp
    with_reducible refine hK _ ?_
    clear hK KK
    with_reducible refine class_skipk ?_ ?_
    · first | exact rfl | (go_simp; try simp [undef])
    intro KK hK
    go_simp
    with_reducible refine hK _ ?_
    clear hK KK
    with_reducible refine class_opk (.bool true) ?_ ?_ ?_
    · first | exact rfl | go_simp
    · intro W hW
      go_simp
    intro KK hK
    go_simp
    with_reducible refine hK _ ?_
    clear hK KK
    go_simp
    intro W hW
    have HBW := Lib.hid (HB.out.trans (hW.mono HB.out.size))
    have HEW := Lib.hid (HE.out.keep (B := W0.heap.size) hlt hW)
    have hsW := hW.size
    clear hW
    go_wp2_with fail
    go_ret
    exact ⟨ret_b HV.out.symm, HBW.out⟩
  | true =>
  by_cases hl : z < ls
  case pos =>
    have tl : decide (z < ls) = true := decide_eq_true hl
    have HV : Hid (enB ⟨q, C, L, K, X, z⟩ = false) := Lib.hid (by rw [HEN.out, show Go.Proofs.YtjnlbhmddhpmaaaGreat.vers.In ls 999 z = false from Go.Proofs.YtjnlbhmddhpmaaaGreat.vers.in_off (by omega)]; rfl)
    clear hl
    go_enter Tryz.func7, Tryz.ntmps7
    go_wp2_with fail
    generalize w.alloc _ = W0 at hb he hlt ⊢
    have HB := Lib.hid hb
    have HE := Lib.hid he
    clear hb he
    refine class_region W0.heap.size (by kernel_rfl) (by kernel_rfl) ?_
    with_reducible refine class_opk (.pointer (some ⟨w.heap.size, 1, none⟩)) ?_ ?_ ?_
    · first | exact rfl | go_simp
    · intro W hW
      go_simp
    intro KK hK
    go_simp
    with_reducible refine hK _ ?_
    clear hK KK
    with_reducible refine class_opk (.agg #[.slice A1 n1 c1]) ?_ ?_ ?_
    · first | exact rfl | go_simp
    · intro W hW
      obtain ⟨g0, g1, g2, g3, g4, g5⟩ := HE.out.keep (B := W0.heap.size) hlt hW
      go_simp
    intro KK hK
    go_simp
    with_reducible refine hK _ ?_
    clear hK KK
    with_reducible refine class_opk (.bool true) ?_ ?_ ?_
    · first | exact rfl | go_simp
    · intro W hW
      go_simp
      refine class_call hW ?_
      exact HST.out W (HB.out.trans (hW.mono HB.out.size))
    intro KK hK
    go_simp
    with_reducible refine hK _ ?_
    clear hK KK
    with_reducible refine class_opk (.bool false) ?_ ?_ ?_
    · first | exact rfl | go_simp
    · intro W hW
      go_simp
    intro KK hK
    go_simp
    with_reducible refine hK _ ?_
    clear hK KK
    with_reducible refine class_opk (.bool false) ?_ ?_ ?_
    · first | exact rfl | go_simp
    · intro W hW
      go_simp
    intro KK hK
    go_simp
    with_reducible refine hK _ ?_
    clear hK KK
    with_reducible refine class_opk (.pointer (some ⟨w.heap.size, 5, none⟩)) ?_ ?_ ?_
    · first | exact rfl | go_simp
    · intro W hW
      go_simp
    intro KK hK
    go_simp
    with_reducible refine hK _ ?_
    clear hK KK
    with_reducible refine class_opk (.int .i64 z) ?_ ?_ ?_
    · first | exact rfl | go_simp
    · intro W hW
      obtain ⟨g0, g1, g2, g3, g4, g5⟩ := HE.out.keep (B := W0.heap.size) hlt hW
      go_simp
    intro KK hK
    go_simp
    with_reducible refine hK _ ?_
    clear hK KK
    with_reducible refine class_opk (.pointer (some ⟨w.heap.size, 1, none⟩)) ?_ ?_ ?_
    · first | exact rfl | go_simp
    · intro W hW
      go_simp
    intro KK hK
    go_simp
    with_reducible refine hK _ ?_
    clear hK KK
    with_reducible refine class_opk (.agg #[.slice A1 n1 c1]) ?_ ?_ ?_
    · first | exact rfl | go_simp
    · intro W hW
      obtain ⟨g0, g1, g2, g3, g4, g5⟩ := HE.out.keep (B := W0.heap.size) hlt hW
      go_simp
    intro KK hK
    go_simp
    with_reducible refine hK _ ?_
    clear hK KK
    with_reducible refine class_opk (.int .i64 ls) ?_ ?_ ?_
    · first | exact rfl | go_simp
    · intro W hW
      go_simp
      refine class_call hW ?_
      exact HLS.out W (HB.out.trans (hW.mono HB.out.size))
    intro KK hK
    go_simp
    with_reducible refine hK _ ?_
    clear hK KK
    with_reducible refine class_opk (.bool true) ?_ ?_ ?_
    · first | exact rfl | go_simp
    · intro W hW
      go_simp
    intro KK hK
    go_simp
    with_reducible refine hK _ ?_
    clear hK KK
    with_reducible refine class_opk (.bool true) ?_ ?_ ?_
    · first | exact rfl | go_simp
    · intro W hW
      go_simp
    intro KK hK
    go_simp
    with_reducible refine hK _ ?_
    clear hK KK
    with_reducible refine class_opk (.bool true) ?_ ?_ ?_
    · first | exact rfl | go_simp
    · intro W hW
      go_simp
    intro KK hK
    go_simp
    with_reducible refine hK _ ?_
    clear hK KK
    with_reducible refine class_skipk ?_ ?_
    · first | exact rfl | (go_simp; try simp [undef])
    intro KK hK
    go_simp
    with_reducible refine hK _ ?_
    clear hK KK
    with_reducible refine class_skipk ?_ ?_
    · first | exact rfl | (go_simp; try simp [undef])
    intro KK hK
    go_simp
    with_reducible refine hK _ ?_
    clear hK KK
    with_reducible refine class_skipk ?_ ?_
    · first | exact rfl | (go_simp; try simp [undef])
    intro KK hK
    go_simp
    with_reducible refine hK _ ?_
    clear hK KK
    with_reducible refine class_opk (.bool true) ?_ ?_ ?_
    · first | exact rfl | go_simp
    · intro W hW
      go_simp
    intro KK hK
    go_simp
    with_reducible refine hK _ ?_
    clear hK KK
    go_simp
    intro W hW
    have HBW := Lib.hid (HB.out.trans (hW.mono HB.out.size))
    have HEW := Lib.hid (HE.out.keep (B := W0.heap.size) hlt hW)
    have hsW := hW.size
    clear hW
    go_wp2_with fail
    go_ret
    exact ⟨ret_b HV.out.symm, HBW.out⟩
  have tl : decide (z < ls) = false := decide_eq_false hl
  by_cases h9 : 999 < z
  case pos =>
    have t9 : decide ((999 : Int) < z) = true := decide_eq_true h9
    have HV : Hid (enB ⟨q, C, L, K, X, z⟩ = false) := Lib.hid (by rw [HEN.out, show Go.Proofs.YtjnlbhmddhpmaaaGreat.vers.In ls 999 z = false from Go.Proofs.YtjnlbhmddhpmaaaGreat.vers.in_off (by omega)]; rfl)
    clear hl h9
    go_enter Tryz.func7, Tryz.ntmps7
    go_wp2_with fail
    generalize w.alloc _ = W0 at hb he hlt ⊢
    have HB := Lib.hid hb
    have HE := Lib.hid he
    clear hb he
    refine class_region W0.heap.size (by kernel_rfl) (by kernel_rfl) ?_
    with_reducible refine class_opk (.pointer (some ⟨w.heap.size, 1, none⟩)) ?_ ?_ ?_
    · first | exact rfl | go_simp
    · intro W hW
      go_simp
    intro KK hK
    go_simp
    with_reducible refine hK _ ?_
    clear hK KK
    with_reducible refine class_opk (.agg #[.slice A1 n1 c1]) ?_ ?_ ?_
    · first | exact rfl | go_simp
    · intro W hW
      obtain ⟨g0, g1, g2, g3, g4, g5⟩ := HE.out.keep (B := W0.heap.size) hlt hW
      go_simp
    intro KK hK
    go_simp
    with_reducible refine hK _ ?_
    clear hK KK
    with_reducible refine class_opk (.bool true) ?_ ?_ ?_
    · first | exact rfl | go_simp
    · intro W hW
      go_simp
      refine class_call hW ?_
      exact HST.out W (HB.out.trans (hW.mono HB.out.size))
    intro KK hK
    go_simp
    with_reducible refine hK _ ?_
    clear hK KK
    with_reducible refine class_opk (.bool false) ?_ ?_ ?_
    · first | exact rfl | go_simp
    · intro W hW
      go_simp
    intro KK hK
    go_simp
    with_reducible refine hK _ ?_
    clear hK KK
    with_reducible refine class_opk (.bool false) ?_ ?_ ?_
    · first | exact rfl | go_simp
    · intro W hW
      go_simp
    intro KK hK
    go_simp
    with_reducible refine hK _ ?_
    clear hK KK
    with_reducible refine class_opk (.pointer (some ⟨w.heap.size, 5, none⟩)) ?_ ?_ ?_
    · first | exact rfl | go_simp
    · intro W hW
      go_simp
    intro KK hK
    go_simp
    with_reducible refine hK _ ?_
    clear hK KK
    with_reducible refine class_opk (.int .i64 z) ?_ ?_ ?_
    · first | exact rfl | go_simp
    · intro W hW
      obtain ⟨g0, g1, g2, g3, g4, g5⟩ := HE.out.keep (B := W0.heap.size) hlt hW
      go_simp
    intro KK hK
    go_simp
    with_reducible refine hK _ ?_
    clear hK KK
    with_reducible refine class_opk (.pointer (some ⟨w.heap.size, 1, none⟩)) ?_ ?_ ?_
    · first | exact rfl | go_simp
    · intro W hW
      go_simp
    intro KK hK
    go_simp
    with_reducible refine hK _ ?_
    clear hK KK
    with_reducible refine class_opk (.agg #[.slice A1 n1 c1]) ?_ ?_ ?_
    · first | exact rfl | go_simp
    · intro W hW
      obtain ⟨g0, g1, g2, g3, g4, g5⟩ := HE.out.keep (B := W0.heap.size) hlt hW
      go_simp
    intro KK hK
    go_simp
    with_reducible refine hK _ ?_
    clear hK KK
    with_reducible refine class_opk (.int .i64 ls) ?_ ?_ ?_
    · first | exact rfl | go_simp
    · intro W hW
      go_simp
      refine class_call hW ?_
      exact HLS.out W (HB.out.trans (hW.mono HB.out.size))
    intro KK hK
    go_simp
    with_reducible refine hK _ ?_
    clear hK KK
    with_reducible refine class_opk (.bool false) ?_ ?_ ?_
    · first | exact rfl | go_simp
    · intro W hW
      go_simp
    intro KK hK
    go_simp
    with_reducible refine hK _ ?_
    clear hK KK
    with_reducible refine class_opk (.bool false) ?_ ?_ ?_
    · first | exact rfl | go_simp
    · intro W hW
      go_simp
    intro KK hK
    go_simp
    with_reducible refine hK _ ?_
    clear hK KK
    with_reducible refine class_opk (.bool false) ?_ ?_ ?_
    · first | exact rfl | go_simp
    · intro W hW
      go_simp
    intro KK hK
    go_simp
    with_reducible refine hK _ ?_
    clear hK KK
    with_reducible refine class_opk (.pointer (some ⟨w.heap.size, 5, none⟩)) ?_ ?_ ?_
    · first | exact rfl | go_simp
    · intro W hW
      go_simp
    intro KK hK
    go_simp
    with_reducible refine hK _ ?_
    clear hK KK
    with_reducible refine class_opk (.int .i64 z) ?_ ?_ ?_
    · first | exact rfl | go_simp
    · intro W hW
      obtain ⟨g0, g1, g2, g3, g4, g5⟩ := HE.out.keep (B := W0.heap.size) hlt hW
      go_simp
    intro KK hK
    go_simp
    with_reducible refine hK _ ?_
    clear hK KK
    with_reducible refine class_opk (.bool true) ?_ ?_ ?_
    · first | exact rfl | go_simp
    · intro W hW
      go_simp
    intro KK hK
    go_simp
    with_reducible refine hK _ ?_
    clear hK KK
    with_reducible refine class_opk (.bool true) ?_ ?_ ?_
    · first | exact rfl | go_simp
    · intro W hW
      go_simp
    intro KK hK
    go_simp
    with_reducible refine hK _ ?_
    clear hK KK
    go_simp
    intro W hW
    have HBW := Lib.hid (HB.out.trans (hW.mono HB.out.size))
    have HEW := Lib.hid (HE.out.keep (B := W0.heap.size) hlt hW)
    have hsW := hW.size
    clear hW
    go_wp2_with fail
    go_ret
    exact ⟨ret_b HV.out.symm, HBW.out⟩
  have t9 : decide ((999 : Int) < z) = false := decide_eq_false h9
  have HEN2 : Hid (enB ⟨q, C, L, K, X, z⟩ = (artB C L z && lkB K && wtB X && usB L K X)) := Lib.hid (by rw [HEN.out, show Go.Proofs.YtjnlbhmddhpmaaaGreat.vers.In ls 999 z = true from Go.Proofs.YtjnlbhmddhpmaaaGreat.vers.in_of ⟨by omega, by omega⟩]; simp)
  clear hl h9
  go_enter Tryz.func7, Tryz.ntmps7
  go_wp2_with fail
  generalize w.alloc _ = W0 at hb he hlt ⊢
  have HB := Lib.hid hb
  have HE := Lib.hid he
  clear hb he
  refine class_region W0.heap.size (by kernel_rfl) (by kernel_rfl) ?_
  with_reducible refine class_opk (.pointer (some ⟨w.heap.size, 1, none⟩)) ?_ ?_ ?_
  · first | exact rfl | go_simp
  · intro W hW
    go_simp
  intro KK hK
  go_simp
  with_reducible refine hK _ ?_
  clear hK KK
  with_reducible refine class_opk (.agg #[.slice A1 n1 c1]) ?_ ?_ ?_
  · first | exact rfl | go_simp
  · intro W hW
    obtain ⟨g0, g1, g2, g3, g4, g5⟩ := HE.out.keep (B := W0.heap.size) hlt hW
    go_simp
  intro KK hK
  go_simp
  with_reducible refine hK _ ?_
  clear hK KK
  with_reducible refine class_opk (.bool true) ?_ ?_ ?_
  · first | exact rfl | go_simp
  · intro W hW
    go_simp
    refine class_call hW ?_
    exact HST.out W (HB.out.trans (hW.mono HB.out.size))
  intro KK hK
  go_simp
  with_reducible refine hK _ ?_
  clear hK KK
  with_reducible refine class_opk (.bool false) ?_ ?_ ?_
  · first | exact rfl | go_simp
  · intro W hW
    go_simp
  intro KK hK
  go_simp
  with_reducible refine hK _ ?_
  clear hK KK
  with_reducible refine class_opk (.bool false) ?_ ?_ ?_
  · first | exact rfl | go_simp
  · intro W hW
    go_simp
  intro KK hK
  go_simp
  with_reducible refine hK _ ?_
  clear hK KK
  with_reducible refine class_opk (.pointer (some ⟨w.heap.size, 5, none⟩)) ?_ ?_ ?_
  · first | exact rfl | go_simp
  · intro W hW
    go_simp
  intro KK hK
  go_simp
  with_reducible refine hK _ ?_
  clear hK KK
  with_reducible refine class_opk (.int .i64 z) ?_ ?_ ?_
  · first | exact rfl | go_simp
  · intro W hW
    obtain ⟨g0, g1, g2, g3, g4, g5⟩ := HE.out.keep (B := W0.heap.size) hlt hW
    go_simp
  intro KK hK
  go_simp
  with_reducible refine hK _ ?_
  clear hK KK
  with_reducible refine class_opk (.pointer (some ⟨w.heap.size, 1, none⟩)) ?_ ?_ ?_
  · first | exact rfl | go_simp
  · intro W hW
    go_simp
  intro KK hK
  go_simp
  with_reducible refine hK _ ?_
  clear hK KK
  with_reducible refine class_opk (.agg #[.slice A1 n1 c1]) ?_ ?_ ?_
  · first | exact rfl | go_simp
  · intro W hW
    obtain ⟨g0, g1, g2, g3, g4, g5⟩ := HE.out.keep (B := W0.heap.size) hlt hW
    go_simp
  intro KK hK
  go_simp
  with_reducible refine hK _ ?_
  clear hK KK
  with_reducible refine class_opk (.int .i64 ls) ?_ ?_ ?_
  · first | exact rfl | go_simp
  · intro W hW
    go_simp
    refine class_call hW ?_
    exact HLS.out W (HB.out.trans (hW.mono HB.out.size))
  intro KK hK
  go_simp
  with_reducible refine hK _ ?_
  clear hK KK
  with_reducible refine class_opk (.bool false) ?_ ?_ ?_
  · first | exact rfl | go_simp
  · intro W hW
    go_simp
  intro KK hK
  go_simp
  with_reducible refine hK _ ?_
  clear hK KK
  with_reducible refine class_opk (.bool false) ?_ ?_ ?_
  · first | exact rfl | go_simp
  · intro W hW
    go_simp
  intro KK hK
  go_simp
  with_reducible refine hK _ ?_
  clear hK KK
  with_reducible refine class_opk (.bool false) ?_ ?_ ?_
  · first | exact rfl | go_simp
  · intro W hW
    go_simp
  intro KK hK
  go_simp
  with_reducible refine hK _ ?_
  clear hK KK
  with_reducible refine class_opk (.pointer (some ⟨w.heap.size, 5, none⟩)) ?_ ?_ ?_
  · first | exact rfl | go_simp
  · intro W hW
    go_simp
  intro KK hK
  go_simp
  with_reducible refine hK _ ?_
  clear hK KK
  with_reducible refine class_opk (.int .i64 z) ?_ ?_ ?_
  · first | exact rfl | go_simp
  · intro W hW
    obtain ⟨g0, g1, g2, g3, g4, g5⟩ := HE.out.keep (B := W0.heap.size) hlt hW
    go_simp
  intro KK hK
  go_simp
  with_reducible refine hK _ ?_
  clear hK KK
  with_reducible refine class_opk (.bool false) ?_ ?_ ?_
  · first | exact rfl | go_simp
  · intro W hW
    go_simp
  intro KK hK
  go_simp
  with_reducible refine hK _ ?_
  clear hK KK
  with_reducible refine class_opk (.bool false) ?_ ?_ ?_
  · first | exact rfl | go_simp
  · intro W hW
    go_simp
  intro KK hK
  go_simp
  with_reducible refine hK _ ?_
  clear hK KK
  go_simp
  intro W hW
  have HBW := Lib.hid (HB.out.trans (hW.mono HB.out.size))
  have HEW := Lib.hid (HE.out.keep (B := W0.heap.size) hlt hW)
  have hsW := hW.size
  clear hW
  have HB0 := HBW
  have HE0 := HEW
  have hlt0 : w.heap.size < W.heap.size := by omega
  obtain ⟨V0, hV0⟩ : ∃ V0, V0 = W := ⟨_, rfl⟩
  subst hV0
  obtain ⟨g0, g1, g2, g3, g4, g5⟩ := HE0.out
  go_wp2_with fail
  refine (impl_art (c1 := c1) (n3 := n3) (c3 := c3) (n4 := n4) (c4 := c4) (A3 := A3) (A4 := A4) (c2 := c2) q z hn1 hn2 (HR.out.s.below (Go.Proofs.YtjnlbhmddhpmaaaGreat.sl.below_le HB0.out hB)) (HR.out.t.below (Go.Proofs.YtjnlbhmddhpmaaaGreat.el2.below_le HB0.out hB)) (Nat.le_trans hB HB0.out.size)).mono ?_
  rintro e V1 ⟨rfl, hb⟩
  have hs1 := hb.size
  have HB1 := Lib.hid (HB0.out.trans (hb.mono HB0.out.size))
  have HE1 := Lib.hid (HE0.out.keep (B := V0.heap.size) (by omega) hb)
  clear hb g0 g1 g2 g3 g4 g5
  obtain ⟨g0, g1, g2, g3, g4, g5⟩ := HE1.out
  rcases hy1 : artB C L z with _ | _
  · have HV : Hid (enB ⟨q, C, L, K, X, z⟩ = false) := Lib.hid (by rw [HEN2.out, hy1]; simp)
    clear hy1
    go_wp2_with fail
    go_ret
    exact ⟨ret_b HV.out.symm, HB1.out⟩
  have HART := Lib.hid hy1
  clear hy1
  go_wp2_with fail
  refine (Go.Proofs.YtjnlbhmddhpmaaaGreat.lka.impl_are (c := c3) (by omega) (HR.out.k.below (Go.Proofs.YtjnlbhmddhpmaaaGreat.el2.below_le HB1.out hB)) (Nat.le_trans hB HB1.out.size)).mono ?_
  rintro e V2 ⟨rfl, hb⟩
  have hs2 := hb.size
  have HB2 := Lib.hid (HB1.out.trans (hb.mono HB1.out.size))
  have HE2 := Lib.hid (HE1.out.keep (B := V1.heap.size) (by omega) hb)
  clear hb g0 g1 g2 g3 g4 g5
  obtain ⟨g0, g1, g2, g3, g4, g5⟩ := HE2.out
  rcases hy2 : lkB K with _ | _
  · have HV : Hid (enB ⟨q, C, L, K, X, z⟩ = false) := Lib.hid (by rw [HEN2.out, HART.out, hy2]; simp)
    clear hy2
    go_wp2_with fail
    go_ret
    exact ⟨ret_b HV.out.symm, HB2.out⟩
  have HLK := Lib.hid hy2
  clear hy2
  go_wp2_with fail
  refine (Go.Proofs.YtjnlbhmddhpmaaaGreat.wta.wt_impl (c := c4) (by omega) (HR.out.x.below (Go.Proofs.YtjnlbhmddhpmaaaGreat.el2.below_le HB2.out hB)) (Nat.le_trans hB HB2.out.size)).mono ?_
  rintro e V3 ⟨rfl, hb⟩
  have hs3 := hb.size
  have HB3 := Lib.hid (HB2.out.trans (hb.mono HB2.out.size))
  have HE3 := Lib.hid (HE2.out.keep (B := V2.heap.size) (by omega) hb)
  clear hb g0 g1 g2 g3 g4 g5
  obtain ⟨g0, g1, g2, g3, g4, g5⟩ := HE3.out
  rcases hy3 : wtB X with _ | _
  · have HV : Hid (enB ⟨q, C, L, K, X, z⟩ = false) := Lib.hid (by rw [HEN2.out, HART.out, HLK.out, hy3]; simp)
    clear hy3
    go_wp2_with fail
    go_ret
    exact ⟨ret_b HV.out.symm, HB3.out⟩
  have HWT := Lib.hid hy3
  clear hy3
  go_wp2_with fail
  have HL6 : L.length ≤ 6 := by have := HART.out; unfold artB at this; simp only [Bool.and_eq_true, decide_eq_true_eq] at this; exact this.1.1
  refine (impl_us (c1 := c1) (c2 := c2) (c3 := c3) (c4 := c4) q z hn1 hn2 hn3 hn4 HL6 (HR.out.below (Go.Proofs.YtjnlbhmddhpmaaaGreat.el2.below_le HB3.out hB)) (Nat.le_trans hB HB3.out.size)).mono ?_
  rintro e V4 ⟨rfl, hb⟩
  have HB4 := Lib.hid (HB3.out.trans (hb.mono HB3.out.size))
  clear hb
  generalize hu : usB L K X = u
  have HV : Hid (enB ⟨q, C, L, K, X, z⟩ = u) := Lib.hid (by rw [HEN2.out, HART.out, HLK.out, HWT.out, hu]; rfl)
  clear hu
  go_wp2_with fail
  go_ret
  exact ⟨ret_b HV.out.symm, HB4.out⟩
end Go.Proofs.YtjnlbhmddhpmaaaGreat.ivu
