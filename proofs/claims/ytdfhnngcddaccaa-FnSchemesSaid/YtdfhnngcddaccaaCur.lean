/- The cursor from which the model draws its inputs: one byte, a number below a bound, one of a list, a number; each ends, and nothing but the cursor's own block and new memory turns. -/
import Derived.Test.YtdfhnngcddaccaaRows
import Derived.Laws.AppendOwn
import Derived.Laws.OwnMore
import Derived.Laws.World
import Derived.WalkKit
import Derived.ProofKit
import Derived.OpenShut
import Derived.ShutString
import Derived.ChangeOld
import Derived.Below
import Derived.Lib.Hide
import Derived.WalkSpells
import Derived.WalkLawsBesides
import Derived.BigQuiet
import Derived.Deep.QuietTactic
import Derived.Maps.AppendAt
namespace Go.Proofs.Ytdfhnngcddaccaa.cur
open Go.ChangeShapes Go.WideShapes Go.ChangeAt Go.RowKit
set_option linter.unusedVariables false
set_option linter.unusedSimpArgs false
/-- Only block b may have changed. -/
structure Only (b : Nat) (w w' : World) : Prop where
  os : w'.os = w.os
  tape : w'.tape = w.tape
  output : w'.output = w.output
  size : w'.heap.size = w.heap.size
  block : ∀ k, k ≠ b → w'.heap[k]? = w.heap[k]?
theorem Only.refl (b : Nat) (w : World) : Only b w w := ⟨rfl, rfl, rfl, rfl, fun _ _ => rfl⟩
theorem Only.trans {b : Nat} {u v w : World} (h : Only b u v) (k : Only b v w) : Only b u w :=
  ⟨k.os.trans h.os, k.tape.trans h.tape, k.output.trans h.output, k.size.trans h.size, fun i hi => (k.block i hi).trans (h.block i hi)⟩
theorem Only.drewN {b : Nat} {u w : World} (h : Only b u w) (n : Nat) : Only b u (w.drewN n) := ⟨h.os, h.tape, h.output, h.size, h.block⟩
theorem Only.setCell {b : Nat} {u w : World} (h : Only b u w) (j : Nat) (v : Value) : Only b u (w.setCell ⟨b, j, none⟩ v) :=
  h.trans ⟨rfl, rfl, rfl, by simp [World.setCell], fun k hk => Below.heap_setCell _ _ _ _ hk⟩
theorem Only.below {b B : Nat} {u w : World} (h : Only b u w) (hB : B ≤ b) : Below B u w :=
  ⟨h.os, h.tape, h.output, by rw [h.size]; exact Nat.le_refl _, fun k hk => h.block k (by omega)⟩
theorem and_255 (X : Int) : 0 ≤ bits .and .i64 X 255 ∧ bits .and .i64 X 255 ≤ 255 := by
  have hs : ((BitVec.ofInt 64 X &&& BitVec.ofInt 64 255)).toNat ≤ 255 := by
    rw [BitVec.toNat_and]
    exact Nat.le_trans Nat.and_le_right (by decide)
  have e : bits .and .i64 X 255 = (((BitVec.ofInt 64 X &&& BitVec.ofInt 64 255)).toNat : Int) := by
    show IntKind.i64.wrap (((BitVec.ofInt 64 X &&& BitVec.ofInt 64 255)).toNat : Int) = _
    exact IntWalk.i64_in _ (by omega)
  rw [e]
  omega
/-- Block b is a cursor over the bytes of a code that came in. -/
def CurAt (w : World) (b : Nat) (a : Option Addr) (len cap : Nat) : Prop := ∃ i h : Int, 0 ≤ i ∧ i ≤ len ∧ w.heap[b]? = some (.cells #[.slice a len cap, .int .i64 i, .int .i64 h] 134 (0, 0))
/-- The bytes of a code that lies below block number B. -/
def CodeAt (w : World) (B : Nat) (a : Option Addr) (len : Nat) : Prop := ∀ j, j < len → ∃ (cb off : Nat) (z : Int), a = some ⟨cb, off, none⟩ ∧ cb < B ∧ 0 ≤ z ∧ z ≤ 255 ∧ w.cell? ⟨cb, off + j, none⟩ = some (.int .u8 z)
theorem CodeAt.only {w w' : World} {B b : Nat} {a : Option Addr} {len : Nat} (h : CodeAt w B a len) (hB : B ≤ b) (o : Only b w w') : CodeAt w' B a len := by
  intro j hj
  obtain ⟨cb, off, z, h1, h2, h3, h4, h5⟩ := h j hj
  exact ⟨cb, off, z, h1, h2, h3, h4, (World.cell?_of_block (w := w) (o.block cb (by omega))).trans h5⟩
theorem CodeAt.below {w w' : World} {B B' : Nat} {a : Option Addr} {len : Nat} (h : CodeAt w B a len) (hB : B ≤ B') (o : Below B' w w') : CodeAt w' B a len := by
  intro j hj
  obtain ⟨cb, off, z, h1, h2, h3, h4, h5⟩ := h j hj
  exact ⟨cb, off, z, h1, h2, h3, h4, (o.cell (p := ⟨cb, off + j, none⟩) (by show cb < B'; omega)).trans h5⟩
theorem cur_cells {w : World} {b : Nat} {x y z : Value} {T : TypeId} (h : w.heap[b]? = some (.cells #[x, y, z] T (0, 0))) :
    w.cell? ⟨b, 0, none⟩ = some x ∧ w.cell? ⟨b, 1, none⟩ = some y ∧ w.cell? ⟨b, 2, none⟩ = some z ∧ w.frozen? ⟨b, 1, none⟩ = false ∧ w.frozen? ⟨b, 2, none⟩ = false := by
  refine ⟨?_, ?_, ?_, ?_, ?_⟩ <;> simp [World.cell?, World.frozen?, h]
theorem cur_set1 {w : World} {b : Nat} {x y z v : Value} {T : TypeId} (h : w.heap[b]? = some (.cells #[x, y, z] T (0, 0))) : (w.setCell ⟨b, 1, none⟩ v).heap[b]? = some (.cells #[x, v, z] T (0, 0)) := by
  rw [heap_setCell_same w b 1 _ T v h]; rfl
theorem cur_set2 {w : World} {b : Nat} {x y z v : Value} {T : TypeId} (h : w.heap[b]? = some (.cells #[x, y, z] T (0, 0))) : (w.setCell ⟨b, 2, none⟩ v).heap[b]? = some (.cells #[x, y, v] T (0, 0)) := by
  rw [heap_setCell_same w b 2 _ T v h]; rfl
set_option maxRecDepth 100000 in
theorem byte_calls (b B : Nat) (a : Option Addr) (len cap : Nat) (w : World) (hl : len ≤ 1048576) (hc : CurAt w b a len cap) (hcode : CodeAt w B a len) (hB : B ≤ b) :
    Calls Try.prog 65 #[.pointer (some ⟨b, 0, none⟩)] w fun e w' => ∃ x : Int, e = .returned (.int .i64 x) ∧ 0 ≤ x ∧ x ≤ 255 ∧ CurAt w' b a len cap ∧ Only b w w' := by
  obtain ⟨i, h, hi0, hil, hblk⟩ := hc
  obtain ⟨c0, c1, c2, f1, f2⟩ := cur_cells hblk
  have HB := Lib.hid hblk
  clear hblk
  go_enter Try.func65, Try.ntmps65
  go_wp2
  generalize wrap64 (wrap64 (h * 6364136223846793005) + 1442695040888963407) = h1
  have HW := Lib.hid (cur_set2 (v := .int .i64 h1) HB.out)
  have o1 : Only b w (w.setCell ⟨b, 2, none⟩ (.int .i64 h1)) := (Only.refl b w).setCell 2 _
  have hcode1 := hcode.only hB o1
  generalize w.setCell ⟨b, 2, none⟩ (.int .i64 h1) = w1 at *
  clear c0 c1 c2 f1 f2 hcode
  obtain ⟨c0, c1, c2, f1, f2⟩ := cur_cells HW.out
  have HO := Lib.hid o1
  clear o1
  by_cases hlt : i < len
  · obtain ⟨k, rfl⟩ := Int.eq_ofNat_of_zero_le hi0
    obtain ⟨cb, off, z, rfl, hcb, hz0, hz1, hcell⟩ := hcode1 k (by omega)
    clear hcode1
    go_quiet (fail)
    go_wp2
    go_quiet (fail)
    go_wp2
    go_quiet (fail)
    go_wp2
    go_ret
    exact ⟨_, rfl, (and_255 _).1, (and_255 _).2, ⟨(k : Int) + 1, h1, by omega, by omega, cur_set1 HW.out⟩, HO.out.trans ⟨rfl, rfl, rfl, by simp [World.setCell], fun j hj => Below.heap_setCell _ _ _ _ hj⟩⟩
  · clear hcode1
    go_quiet (fail)
    go_wp2
    go_quiet (fail)
    go_wp2
    go_ret
    exact ⟨_, rfl, (and_255 _).1, (and_255 _).2, ⟨i, h1, hi0, hil, HW.out⟩, HO.out.trans ⟨rfl, rfl, rfl, rfl, fun j hj => rfl⟩⟩
theorem below_small (b B : Nat) (a : Option Addr) (len cap : Nat) (n : Int) (w : World) (hl : len ≤ 1048576) (hc : CurAt w b a len cap) (hcode : CodeAt w B a len) (hB : B ≤ b) (h0 : 0 < n) (h1 : n ≤ 256) :
    Calls Try.prog 34 #[.pointer (some ⟨b, 0, none⟩), .int .i64 n] w fun e w' => ∃ x : Int, e = .returned (.int .i64 x) ∧ 0 ≤ x ∧ x < n ∧ CurAt w' b a len cap ∧ Only b w w' := by
  have HB := Lib.hid (byte_calls b B a len cap w hl hc hcode hB)
  clear hc hcode
  go_enter Try.func34, Try.ntmps34
  go_wp2_with fail
  refine HB.out.mono ?_
  rintro e W1 ⟨x, rfl, hx0, hx1, hc1, ho1⟩
  have HC := Lib.hid hc1
  have HO := Lib.hid ho1
  clear hc1 ho1
  go_wp2_with fail
  go_ret
  exact ⟨_, rfl, Int.emod_nonneg _ (by omega), Int.emod_lt_of_pos _ h0, HC.out, HO.out⟩
theorem below_great (b B : Nat) (a : Option Addr) (len cap : Nat) (n : Int) (w : World) (hl : len ≤ 1048576) (hc : CurAt w b a len cap) (hcode : CodeAt w B a len) (hB : B ≤ b) (h0 : 256 < n) :
    Calls Try.prog 34 #[.pointer (some ⟨b, 0, none⟩), .int .i64 n] w fun e w' => ∃ x : Int, e = .returned (.int .i64 x) ∧ 0 ≤ x ∧ x < n ∧ CurAt w' b a len cap ∧ Only b w w' := by
  have HK := Lib.hid (fun W (hW : CurAt W b a len cap) (hO : Only b w W) => byte_calls b B a len cap W hl hW (hcode.only hB hO) hB)
  have HC := Lib.hid hc
  clear hc hcode
  go_enter Try.func34, Try.ntmps34
  go_wp2_with fail
  refine (HK.out _ HC.out (Only.refl _ _)).mono ?_
  rintro e W1 ⟨x, rfl, hx0, hx1, hc1, ho1⟩
  have C1 := Lib.hid hc1
  have O1 := Lib.hid ho1
  clear hc1 ho1
  go_wp2_with fail
  refine (HK.out _ C1.out O1.out).mono ?_
  rintro e W2 ⟨y, rfl, hy0, hy1, hc2, ho2⟩
  have C2 := Lib.hid hc2
  have O2 := Lib.hid (O1.out.trans ho2)
  clear hc2 ho2
  go_wp2_with fail
  refine (HK.out _ C2.out O2.out).mono ?_
  rintro e W3 ⟨z, rfl, hz0, hz1, hc3, ho3⟩
  have C3 := Lib.hid hc3
  have O3 := Lib.hid (O2.out.trans ho3)
  clear hc3 ho3
  go_wp2_with fail
  refine (HK.out _ C3.out O3.out).mono ?_
  rintro e W4 ⟨u, rfl, hu0, hu1, hc4, ho4⟩
  have C4 := Lib.hid hc4
  have O4 := Lib.hid (O3.out.trans ho4)
  clear hc4 ho4
  go_wp2_with fail
  go_ret
  exact ⟨_, rfl, Int.emod_nonneg _ (by omega), Int.emod_lt_of_pos _ (by omega), C4.out, O4.out⟩
/-- A number below n, drawn off the cursor. -/
theorem below_calls (b B : Nat) (a : Option Addr) (len cap : Nat) (n : Int) (w : World) (hl : len ≤ 1048576) (hc : CurAt w b a len cap) (hcode : CodeAt w B a len) (hB : B ≤ b) (h0 : 0 < n) :
    Calls Try.prog 34 #[.pointer (some ⟨b, 0, none⟩), .int .i64 n] w fun e w' => ∃ x : Int, e = .returned (.int .i64 x) ∧ 0 ≤ x ∧ x < n ∧ CurAt w' b a len cap ∧ Only b w w' := by
  by_cases h : n ≤ 256
  · exact below_small b B a len cap n w hl hc hcode hB h0 h
  · exact below_great b B a len cap n w hl hc hcode hB (by omega)
theorem CurAt.grown {w w' : World} {b : Nat} {a : Option Addr} {len cap : Nat} {row : Option Nat} (h : CurAt w b a len cap) (hg : w.grownBy w' row) (hne : some b ≠ row) : CurAt w' b a len cap := by
  obtain ⟨i, x, h0, h1, h2⟩ := h
  exact ⟨i, x, h0, h1, by rw [hg.block b (Array.getElem?_eq_some_iff.1 h2).1 hne]; exact h2⟩
theorem CurAt.lt {w : World} {b : Nat} {a : Option Addr} {len cap : Nat} (h : CurAt w b a len cap) : b < w.heap.size := by
  obtain ⟨i, x, h0, h1, h2⟩ := h
  exact (Array.getElem?_eq_some_iff.1 h2).1
theorem CurAt.alloc {w : World} {b : Nat} {a : Option Addr} {len cap : Nat} (h : CurAt w b a len cap) (o : Obj) : CurAt (w.alloc o) b a len cap :=
  h.grown (World.grownBy_alloc w o none) (by simp)
theorem Only.grownBy {b : Nat} {w w' : World} (h : Only b w w') : w.grownBy w' (some b) :=
  ⟨h.os, h.tape, h.output, by rw [h.size]; exact Nat.le_refl _, fun k _ hk => h.block k (fun e => hk (by rw [e]))⟩
/-- What lies below B is kept, and of the blocks that were there only b may have changed. -/
structure Kp (B b : Nat) (w w' : World) : Prop where
  bel : Below B w w'
  gr : w.grownBy w' (some b)
theorem Kp.refl (B b : Nat) (w : World) : Kp B b w w := ⟨Below.refl B w, ⟨rfl, rfl, rfl, Nat.le_refl _, fun _ _ _ => rfl⟩⟩
theorem Kp.size {B b : Nat} {w w' : World} (h : Kp B b w w') : w.heap.size ≤ w'.heap.size := h.gr.size
theorem Kp.trans {B b : Nat} {u v w : World} (h : Kp B b u v) (k : Kp B b v w) : Kp B b u w := ⟨h.bel.trans k.bel, h.gr.trans k.gr⟩
theorem Kp.only {B b : Nat} {w v v' : World} (h : Kp B b w v) (ho : Only b v v') (hB : B ≤ b) : Kp B b w v' := h.trans ⟨ho.below hB, ho.grownBy⟩
theorem Kp.drew {B b : Nat} {w v : World} (h : Kp B b w v) : Kp B b w v.drew := ⟨h.bel.drew, ⟨h.gr.os, h.gr.tape, h.gr.output, h.gr.size, h.gr.block⟩⟩
theorem Kp.alloc {B b : Nat} {w v : World} (h : Kp B b w v) (hB : B ≤ w.heap.size) (o : Obj) : Kp B b w (v.alloc o) :=
  ⟨h.bel.alloc (Nat.le_trans hB h.gr.size) o, h.gr.trans (World.grownBy_alloc v o _)⟩
theorem Kp.grown {B b : Nat} {w v v' : World} {row : Option Nat} (h : Kp B b w v) (hg : v.grownBy v' row) (hB : B ≤ w.heap.size) (hr : ∀ k, row = some k → w.heap.size ≤ k) : Kp B b w v' :=
  ⟨h.bel.grown hg (Nat.le_trans hB h.gr.size) (fun k hk => Nat.le_trans hB (hr k hk)),
   ⟨hg.os.trans h.gr.os, hg.tape.trans h.gr.tape, hg.output.trans h.gr.output, Nat.le_trans h.gr.size hg.size,
    fun k hk hne => (hg.block k (Nat.lt_of_lt_of_le hk h.gr.size) (fun e => by have := hr k e.symm; omega)).trans (h.gr.block k hk hne)⟩⟩
theorem Kp.setCell {B b : Nat} {w v : World} (h : Kp B b w v) (hB : B ≤ w.heap.size) {p : Addr} (hp : w.heap.size ≤ p.block) (u : Value) : Kp B b w (v.setCell p u) :=
  ⟨h.bel.setCell (Nat.le_trans hB hp) u, ⟨h.gr.os, h.gr.tape, h.gr.output, by simpa [World.setCell] using h.gr.size,
    fun k hk hne => (Below.heap_setCell v p u k (fun e => by omega)).trans (h.gr.block k hk hne)⟩⟩
theorem Kp.cell {B b : Nat} {w v : World} (h : Kp B b w v) {p : Addr} (hp : p.block < w.heap.size) (hb : p.block ≠ b) : v.cell? p = w.cell? p := World.cell?_of_block (w := w) (h.gr.block p.block hp (fun e => hb (by injection e)))
theorem Kp.frozen {B b : Nat} {w v : World} (h : Kp B b w v) {p : Addr} (hp : p.block < w.heap.size) (hb : p.block ≠ b) : v.frozen? p = w.frozen? p := World.frozen?_of_block (w := w) (h.gr.block p.block hp (fun e => hb (by injection e)))
/-- One of a list's numbers, drawn off the cursor. -/
theorem pick_calls (b B g : Nat) (a : Option Addr) (len cap n : Nat) (lo hi : Int) (w : World) (hl : len ≤ 1048576) (hc : CurAt w b a len cap) (hcode : CodeAt w B a len) (hB : B ≤ b) (h0 : 0 < n) (hn : n ≤ 1048576) (hg : g ≠ b)
    (hlist : ∀ j, j < n → ∃ v : Int, w.cell? ⟨g, j, none⟩ = some (.int .i64 v) ∧ lo ≤ v ∧ v ≤ hi) :
    Calls Try.prog 72 #[.pointer (some ⟨b, 0, none⟩), .slice (some ⟨g, 0, none⟩) n n] w fun e w' => ∃ v : Int, e = .returned (.int .i64 v) ∧ lo ≤ v ∧ v ≤ hi ∧ CurAt w' b a len cap ∧ Only b w w' := by
  have HK := Lib.hid (below_calls b B a len cap (n : Int) w hl hc hcode hB (by omega))
  have HL := Lib.hid hlist
  clear hc hcode hlist
  go_enter Try.func72, Try.ntmps72
  go_wp2_with fail
  refine HK.out.mono ?_
  rintro e W1 ⟨x, rfl, hx0, hx1, hc1, ho1⟩
  have C1 := Lib.hid hc1
  have O1 := Lib.hid ho1
  obtain ⟨k, rfl⟩ := Int.eq_ofNat_of_zero_le hx0
  obtain ⟨v, hv, hlo, hhi⟩ := HL.out k (by omega)
  have hcell : W1.cell? ⟨g, k, none⟩ = some (.int .i64 v) := (World.cell?_of_block (w := w) (ho1.block g hg)).trans hv
  clear hc1 ho1 hv
  go_wp2_with fail
  go_ret
  exact ⟨v, rfl, hlo, hhi, C1.out, O1.out⟩
theorem and_mask (X : Int) : 0 ≤ bits .and .i64 X 1073741823 ∧ bits .and .i64 X 1073741823 ≤ 1073741823 := by
  have hs : ((BitVec.ofInt 64 X &&& BitVec.ofInt 64 1073741823)).toNat ≤ 1073741823 := by
    rw [BitVec.toNat_and]
    exact Nat.le_trans Nat.and_le_right (by decide)
  have e : bits .and .i64 X 1073741823 = (((BitVec.ofInt 64 X &&& BitVec.ofInt 64 1073741823)).toNat : Int) := by
    show IntKind.i64.wrap (((BitVec.ofInt 64 X &&& BitVec.ofInt 64 1073741823)).toNat : Int) = _
    exact IntWalk.i64_in _ (by omega)
  rw [e]
  omega
set_option maxRecDepth 100000 in
/-- A new cursor over a code. -/
theorem new_calls (B : Nat) (a : Option Addr) (len cap : Nat) (w : World) (hl : len ≤ 1048576) (hcode : CodeAt w B a len) (hB : B ≤ w.heap.size) :
    Calls Try.prog 60 #[.slice a len cap] w fun e w' => ∃ h : Int, e = .returned (.pointer (some ⟨w.heap.size, 0, none⟩)) ∧ w' = w.alloc (.cells #[.slice a len cap, .int .i64 0, .int .i64 h] 134) := by
  have HC := Lib.hid hcode
  clear hcode
  go_enter Try.func60, Try.ntmps60
  go_wp2
  go_loop [3, 4] (fun h i => ∃ (k : Nat) (x : Int), k ≤ len ∧ i = .int .i64 k ∧ h = .int .i64 x) (fun _ i => len - (intOf i).toNat)
  case atStart => exact ⟨0, _, Nat.zero_le _, rfl, rfl⟩
  case round =>
    obtain ⟨k, x, hk, rfl, rfl⟩ := hrel
    by_cases hlt : k < len
    · have d1 : decide ((k : Int) < (len : Int)) = true := decide_eq_true (by omega)
      by_cases h4 : k < 4000
      · have d2 : decide ((k : Int) < 4000) = true := decide_eq_true (by omega)
        obtain ⟨cb, off, z, rfl, hcb, hz0, hz1, hcell⟩ := HC.out k hlt
        go_wp2
        go_round
        case rel => exact ⟨k + 1, _, by omega, by go_num, rfl⟩
        case measure => simp [intOf]; omega
      · have d2 : decide ((k : Int) < 4000) = false := decide_eq_false (by omega)
        go_wp2
        go_ret
        exact ⟨rfl, x, rfl⟩
    · have d1 : decide ((k : Int) < (len : Int)) = false := decide_eq_false (by omega)
      go_wp2
      go_ret
      exact ⟨rfl, x, rfl⟩
theorem cur_new (w : World) (a : Option Addr) (len cap : Nat) (h : Int) : CurAt (w.alloc (.cells #[.slice a len cap, .int .i64 0, .int .i64 h] 134)) w.heap.size a len cap :=
  ⟨0, h, Int.le_refl _, by omega, heap_alloc_new w _⟩
theorem code_new {w : World} {a : Option Addr} {len : Nat} (hc : CodeAt w w.heap.size a len) (o : Obj) : CodeAt (w.alloc o) w.heap.size a len :=
  hc.below (Nat.le_refl _) ((Below.refl _ _).alloc (Nat.le_refl _) o)
theorem big_yes (a : Option Addr) (len cap : Nat) (w : World) (h : 1048576 < len) : Calls Try.prog 9 #[.slice a len cap] w fun e w' => e = .returned (.bool true) ∧ w = w' := by
  have t : decide ((1048576 : Int) < (len : Int)) = true := decide_eq_true (by omega)
  go_enter Try.func9, Try.ntmps9
  go_wp2
  go_ret
  simp
theorem big_no (a : Option Addr) (len cap : Nat) (w : World) (h : ¬ 1048576 < len) : Calls Try.prog 9 #[.slice a len cap] w fun e w' => e = .returned (.bool false) ∧ w = w' := by
  have t : decide ((1048576 : Int) < (len : Int)) = false := decide_eq_false (by omega)
  go_enter Try.func9, Try.ntmps9
  go_wp2
  go_ret
  simp
end Go.Proofs.Ytdfhnngcddaccaa.cur
