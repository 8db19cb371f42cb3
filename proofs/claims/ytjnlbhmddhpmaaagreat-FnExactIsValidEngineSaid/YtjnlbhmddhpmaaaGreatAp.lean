/- Appending and copying lists of two-integer structs onto rows of one's own: what the run-time's append and copy do, in one step each. -/
import Derived.Test.YtjnlbhmddhpmaaaGreatOw2
import Derived.Laws.AppendOwn
import Derived.Laws.CopyRow
import Derived.Lib.AppendZerosOnto
import Derived.Lib.Overlaps
import Derived.Laws.Entries
import Derived.OwnWalk
namespace Go.Proofs.YtjnlbhmddhpmaaaGreat.ap
open Go.ChangeShapes Go.WideShapes Go.ChangeAt Go.RowKit
open Go.Proofs.YtjnlbhmddhpmaaaGreat.el2 Go.Proofs.YtjnlbhmddhpmaaaGreat.fr Go.Proofs.YtjnlbhmddhpmaaaGreat.ow2
set_option linter.unusedVariables false
set_option linter.unusedSimpArgs false
theorem flat_cons (x : E2) (l : List E2) : flat (x :: l) = .int .i64 x.a :: .int .i64 x.b :: flat l := by simp [flat]
theorem flat_take : ∀ (l : List E2) (k : Nat), (flat l).take (k * 2) = flat (l.take k)
  | [], k => by simp [flat]
  | x :: r, 0 => by simp [flat]
  | x :: r, k + 1 => by
    rw [flat_cons, List.take_succ_cons, flat_cons, ← flat_take r k, show (k + 1) * 2 = k * 2 + 1 + 1 by omega, List.take_succ_cons, List.take_succ_cons]
theorem flat_drop : ∀ (l : List E2) (k : Nat), (flat l).drop (k * 2) = flat (l.drop k)
  | [], k => by simp [flat]
  | x :: r, 0 => by simp
  | x :: r, k + 1 => by
    rw [flat_cons, List.drop_succ_cons, ← flat_drop r k, show (k + 1) * 2 = k * 2 + 1 + 1 by omega, List.drop_succ_cons, List.drop_succ_cons]
theorem flat_one (l : List E2) : ∀ u ∈ flat l, u.oneCell' = true := by
  intro u hu
  unfold flat at hu
  obtain ⟨x, _, hx⟩ := List.mem_flatMap.1 hu
  exact oneN x u hx
theorem flat_nth {l : List E2} {j : Nat} {u : Value} (h : (flat l)[j]? = some u) : ∃ x, l[j / 2]? = some x ∧ u = if j % 2 = 0 then .int .i64 x.a else .int .i64 x.b := by
  have hj : j < (flat l).length := by
    rcases Nat.lt_or_ge j (flat l).length with h' | h'
    · exact h'
    · rw [List.getElem?_eq_none h'] at h; cases h
  rw [flat_len] at hj
  have hk : j / 2 < l.length := by omega
  obtain ⟨h0, h1⟩ := flat_at l (j / 2) _ (List.getElem?_eq_getElem hk)
  refine ⟨_, List.getElem?_eq_getElem hk, ?_⟩
  rcases Nat.mod_two_eq_zero_or_one j with e | e
  · rw [if_pos e]
    rw [show j / 2 * 2 = j by omega, h] at h0
    exact Option.some.inj h0
  · rw [if_neg (by omega)]
    rw [show j / 2 * 2 + 1 = j by omega, h] at h1
    exact Option.some.inj h1
theorem at_cells {w : World} {b o : Nat} {l : List E2} (h : ∀ k x, l[k]? = some x → At w b (o + k * 2) x) : ∀ (j : Nat) (u : Value), (flat l)[j]? = some u → w.cell? ((⟨b, o, none⟩ : Addr).add j) = some u := by
  intro j u hu
  obtain ⟨x, hx, e⟩ := flat_nth hu
  obtain ⟨h0, h1⟩ := h _ _ hx
  rw [Addr.add_lit]
  rcases Nat.mod_two_eq_zero_or_one j with q | q
  · rw [if_pos q] at e
    subst e
    rw [show o + j = o + j / 2 * 2 by omega]; exact h0
  · rw [if_neg (by omega)] at e
    subst e
    rw [show o + j = o + j / 2 * 2 + 1 by omega]; exact h1
/-! a row of one's own, spelt out -/
/-- block g has room for cap elements, and its first are l -/
def Rw (w : World) (e : TypeId) (g cap : Nat) (l : List E2) : Prop := ∃ cur : Array Value, w.heap[g]? = some (.cells cur e (0, 0)) ∧ l.length ≤ cap ∧ cap ≤ maxLen ∧ cur.size = cap * 2 ∧ cur.toList.take (l.length * 2) = flat l
theorem Rw.own {w : World} {e : TypeId} {g cap base : Nat} {l : List E2} (h : Rw w e g cap l) (hb : base ≤ g) : w.ownsRow base e 2 (.slice (some ⟨g, 0, none⟩) l.length cap) l.length (flat l) := by
  obtain ⟨cur, h1, h2, h3, h4, h5⟩ := h
  exact ⟨flat_len l, .inr ⟨g, cap, cur, rfl, hb, h1, h2, h3, h4, h5⟩⟩
theorem own_rw {w : World} {e : TypeId} {base n : Nat} {v : Value} {l : List E2} (h : w.ownsRow base e 2 v n (flat l)) : l.length = n ∧ ((v = .slice none 0 0 ∧ l = []) ∨ ∃ g cap, v = .slice (some ⟨g, 0, none⟩) n cap ∧ base ≤ g ∧ Rw w e g cap l) := by
  have hl : l.length = n := by have := h.1; rw [flat_len] at this; omega
  refine ⟨hl, ?_⟩
  rcases h.2 with ⟨hv, h0⟩ | ⟨g, cap, cur, hv, hb, hg, hnc, hcm, hsz, hx⟩
  · exact .inl ⟨hv, List.eq_nil_of_length_eq_zero (by omega)⟩
  · exact .inr ⟨g, cap, hv, hb, cur, hg, by omega, hcm, hsz, by rw [hl]; exact hx⟩
theorem Rw.lt {w : World} {e : TypeId} {g cap : Nat} {l : List E2} (h : Rw w e g cap l) : g < w.heap.size := by
  obtain ⟨cur, h1, _⟩ := h
  exact (Array.getElem?_eq_some_iff.1 h1).1
theorem Rw.at_ {w : World} {e : TypeId} {g cap : Nat} {l : List E2} (h : Rw w e g cap l) : ∀ k x, l[k]? = some x → At w g (0 + k * 2) x := by
  obtain ⟨A, c, hv, hs, _⟩ := own_vs (h.own (Nat.le_refl g)) rfl
  intro k x hx
  injection hv with e1 _ _
  subst e1
  obtain ⟨b, o, e2, _, h3⟩ := hs.2 (by have := lt_get hx; omega)
  injection e2 with e2
  injection e2 with e3 e4
  subst e3
  rw [← e4] at h3
  exact h3 k x hx
theorem shape_rw {w : World} {e : TypeId} {g cap : Nat} {l : List E2} (h : Rw w e g cap l) : w.shape? g = some (e, cap * 2) ∧ ∀ a : Nat, w.frozen? ⟨g, a, none⟩ = false := by
  obtain ⟨cur, h1, _, _, h4, _⟩ := h
  exact ⟨by simp [World.shape?, h1, h4], fun a => by simp [World.frozen?, h1]⟩
theorem heap_set {w : World} {g : Nat} {cur new : Array Value} {e : TypeId} (h : w.heap[g]? = some (.cells cur e (0, 0))) : (w.setRow g new).heap[g]? = some (.cells new e (0, 0)) := by
  simp [World.setRow, Array.getElem?_modify, h]
theorem heap_other {w : World} {g k : Nat} {new : Array Value} (h : g ≠ k) : (w.setRow g new).heap[k]? = w.heap[k]? := by
  simp [World.setRow, Array.getElem?_modify, h]
theorem set_grown (w : World) (g : Nat) (new : Array Value) : w.grownBy (w.setRow g new) (some g) := ⟨rfl, rfl, rfl, by simp [World.setRow], fun k _ hk => heap_other fun e => hk (by rw [e])⟩
theorem set_off {w : World} {g : Nat} (new : Array Value) : Off g w (w.setRow g new) := ⟨rfl, rfl, rfl, by simp [World.setRow], fun k hk => heap_other fun e => hk e.symm⟩
/-! the run-time's operations -/
section
variable {P : Program}
theorem run_append_e2 (w : World) {base : Nat} (t ty e : TypeId) (i : TypeInfo) (z : Value) (ht : P.underlying t = some (.slice e)) (hi : P.info? e = some i) (hz : i.zero = some z)
    (hsize : i.size = 2) (hby : i.bytes = 16) (hzs : z.cells.size = 2) {v : Value} {k : Nat} {xs l : List E2} (hown : w.ownsRow base e 2 v k (flat xs)) {A : Option Addr} {n c B : Nat} (hv : Vs w B A n l) (hk : k + n ≤ 4194304) (hbase : base ≤ w.heap.size) :
    ∃ v' w', (Builtin.append_ #[t, t] ty #[v, .slice A n c]).run P w = .ok v' w' ∧ w'.ownsRow base e 2 v' (k + n) (flat (xs ++ l)) ∧ w.grownBy w' v.ownBlock := by
  rcases Nat.eq_zero_or_pos n with h0 | h0
  · subst h0
    obtain rfl : l = [] := List.eq_nil_of_length_eq_zero hv.1
    refine ⟨v, w, ?_, by simpa using hown, ⟨rfl, rfl, rfl, Nat.le_refl _, fun _ _ _ => rfl⟩⟩
    obtain ⟨hl, ⟨rfl, rfl⟩ | ⟨g, cap, rfl, hb, hr⟩⟩ := own_rw hown
    · cases A with
      | none => simp [Builtin.append_, run_underlying ht, sizeOf, typeInfo, hi, Builtin.lenOf, Builtin.firstCells]
      | some a =>
        have hf := run_firstCells_some (P := P) w i.size 0 a 0 c [] (by simp) (by simp)
        simp [Builtin.append_, run_underlying ht, sizeOf, typeInfo, hi, Builtin.lenOf, hf]
    · obtain ⟨cur, h1, h2, h3, h4, h5⟩ := hr
      have hkc : k ≤ cap := by omega
      cases A with
      | none => simp [Builtin.append_, run_underlying ht, sizeOf, typeInfo, hi, Builtin.lenOf, Builtin.firstCells, storeCells, hkc]
      | some a =>
        have hf := run_firstCells_some (P := P) w i.size 0 a 0 c [] (by simp) (by simp)
        simp [Builtin.append_, run_underlying ht, sizeOf, typeInfo, hi, Builtin.lenOf, hf, storeCells, hkc]
  · obtain ⟨b, o, rfl, _, hx⟩ := hv.2 h0
    obtain ⟨v', w', hr, ho, hg, _⟩ := run_append_own (P := P) w base t ty e i z 2 16 ht hi hz hsize hby hzs (by decide) v k (flat xs) hown ⟨b, o, none⟩ n c (flat l) (by rw [flat_len, hv.1]) (at_cells hx) (flat_one l) (by unfold maxLen; omega) (by omega) hbase
    exact ⟨v', w', hr, by rw [flat_app]; exact ho, hg⟩
theorem run_copy_e2 (w : World) (dT sT ty elem : TypeId) (g o dLen dCap m sLen sCap : Nat) (a : Addr) (cur : Array Value) (t : TypeId) (cs : List Value)
    (hu : P.underlying dT = some (.slice elem)) {i : TypeInfo} (hi : P.info? elem = some i) (hs : i.size = 2)
    (hg : w.heap[g]? = some (.cells cur t (0, 0))) (hm : m = Nat.min sLen dLen) (hn : cs.length = m * 2)
    (hsrc : ∀ j v, cs[j]? = some v → w.cell? (a.add j) = some v) (hfit : o + cs.length ≤ cur.size) (h1 : ∀ v ∈ cs, v.oneCell' = true) :
    (Builtin.copy_ #[dT, sT] ty #[.slice (some ⟨g, o, none⟩) dLen dCap, .slice (some a) sLen sCap]).run P w =
      .ok (goInt m) (w.setRow g (cur.toList.take o ++ cs ++ cur.toList.drop (o + cs.length)).toArray) := by
  have hl := run_loadCells_list (P := P) w a cs hsrc
  have hst := run_storeCells_at P g o t cs 0 cur w hg (by simpa using hfit) h1
  rw [hn] at hl
  simp [Builtin.copy_, run_underlying hu, Builtin.lenOf, Builtin.firstCells, sizeOf, typeInfo, hi, hs, ← hm, hl, hst]
end
/-! a copied row, its content -/
/-- laying the list p at element k over a row that begins with l -/
theorem lay_over {C : List Value} {l p : List E2} {k cap : Nat} (hC : C.take (l.length * 2) = flat l) (hs : C.length = cap * 2) (hk : k ≤ l.length) (hp : l.length ≤ k + p.length) (hc : k + p.length ≤ cap) :
    (C.take (k * 2) ++ flat p ++ C.drop (k * 2 + (flat p).length)).length = cap * 2 ∧
    (C.take (k * 2) ++ flat p ++ C.drop (k * 2 + (flat p).length)).take ((l.take k ++ p).length * 2) = flat (l.take k ++ p) := by
  have e : C.take (k * 2) = flat (l.take k) := by
    rw [← flat_take, ← hC, List.take_take, Nat.min_eq_left (by omega)]
  have hl : (l.take k ++ p).length = k + p.length := by rw [List.length_append, List.length_take, Nat.min_eq_left hk]
  refine ⟨?_, ?_⟩
  · rw [List.length_append, List.length_append, e, flat_len, flat_len, List.length_take, List.length_drop, hs]
    omega
  · rw [e, ← flat_app, List.take_append_of_le_length (by rw [flat_len]; exact Nat.le_refl _), List.take_of_length_le (by rw [flat_len]; exact Nat.le_refl _)]
/-- .. within it: what stands behind stays -/
theorem lay_in {C : List Value} {l p : List E2} {k cap : Nat} (hC : C.take (l.length * 2) = flat l) (hs : C.length = cap * 2) (hc : l.length ≤ cap) (hp : k + p.length ≤ l.length) :
    (C.take (k * 2) ++ flat p ++ C.drop (k * 2 + (flat p).length)).length = cap * 2 ∧
    (C.take (k * 2) ++ flat p ++ C.drop (k * 2 + (flat p).length)).take ((l.take k ++ p ++ l.drop (k + p.length)).length * 2) = flat (l.take k ++ p ++ l.drop (k + p.length)) := by
  have e : C.take (k * 2) = flat (l.take k) := by
    rw [← flat_take, ← hC, List.take_take, Nat.min_eq_left (by omega)]
  obtain ⟨D, hD⟩ : ∃ D, C = flat l ++ D := ⟨C.drop (l.length * 2), by rw [← hC, List.take_append_drop]⟩
  have e2 : C.drop (k * 2 + (flat p).length) = flat (l.drop (k + p.length)) ++ D := by
    rw [hD, flat_len, show k * 2 + p.length * 2 = (k + p.length) * 2 by omega, List.drop_append_of_le_length (by rw [flat_len]; omega), flat_drop]
  refine ⟨?_, ?_⟩
  · rw [List.length_append, List.length_append, List.length_take, List.length_drop, hs, flat_len]
    omega
  · rw [e, e2, ← flat_app, ← List.append_assoc, ← flat_app, List.take_append_of_le_length (by rw [flat_len]; exact Nat.le_refl _), List.take_of_length_le (by rw [flat_len]; exact Nat.le_refl _)]
/-- a copy into a row, its content told by lists -/
theorem Rw.lay {w : World} {e : TypeId} {g cap : Nat} {l l' : List E2} {cur : Array Value} {p : List E2} {k : Nat} (hg : w.heap[g]? = some (.cells cur e (0, 0))) (hcm : cap ≤ maxLen)
    (h1 : (cur.toList.take (k * 2) ++ flat p ++ cur.toList.drop (k * 2 + (flat p).length)).length = cap * 2)
    (h2 : (cur.toList.take (k * 2) ++ flat p ++ cur.toList.drop (k * 2 + (flat p).length)).take (l'.length * 2) = flat l') (hl : l'.length ≤ cap) :
    Rw (w.setRow g (cur.toList.take (k * 2) ++ flat p ++ cur.toList.drop (k * 2 + (flat p).length)).toArray) e g cap l' :=
  ⟨_, heap_set hg, hl, hcm, by simpa using h1, by simpa using h2⟩
end Go.Proofs.YtjnlbhmddhpmaaaGreat.ap
