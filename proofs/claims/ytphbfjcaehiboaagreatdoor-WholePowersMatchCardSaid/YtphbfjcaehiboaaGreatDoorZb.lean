/-
  How numbers lie in memory, and what the leaf functions of package whole on limbs return.
  Lehmer's steps: what the factors of foresee keep.
  What Euclid's algorithm keeps from stage to stage, and what Bezout's numbers are: plain arithmetic.
  A law for a region whose order is drawn: a load may be taken first where a named call waits for it, even if the region stores into its cell at the end.
-/
import Derived.Test.YtphbfjcaehiboaaGreatDoorProg
import Derived.Test.YtphbfjcaehiboaaGreatDoorZa
import Derived.WalkKit
import Derived.WalkSpells
import Derived.WalkLawsBesides
import Derived.Lib.Hide
import Derived.LoopTactic
import Derived.Outline
import Derived.Deep.LoopGhost
import Derived.BigQuiet
import Derived.Deep.QuietTactic
import Derived.OwnWalk
import Derived.OrdersHeld
import Derived.RegionTactic
import Derived.Deep.RegionHeld
namespace Go.Proofs.YtphbfjcaehiboaaGreatDoor
open Go.RowKit

theorem ret_int {k : IntKind} {a b : Int} (h : a = b) : Ending.returned (.int k a) = .returned (.int k b) := by rw [h]
theorem ret_bool {a b : Bool} (h : a = b) : Ending.returned (.bool a) = .returned (.bool b) := by rw [h]
theorem bcell {W w1 : World} (hb : Below W.heap.size W w1) : (∀ b o, b < W.heap.size → w1.cell? ⟨b, o, none⟩ = W.cell? ⟨b, o, none⟩) ∧ (∀ b o, b < W.heap.size → w1.frozen? ⟨b, o, none⟩ = W.frozen? ⟨b, o, none⟩) :=
  ⟨fun b o h => hb.cell (p := ⟨b, o, none⟩) h, fun b o h => hb.frozen (p := ⟨b, o, none⟩) h⟩

theorem below_at {B : Nat} {w w' : World} (h : Below B w w') {b : Nat} (o : Nat) (hb : b < B) : w'.cell? ⟨b, o, none⟩ = w.cell? ⟨b, o, none⟩ := h.cell (p := ⟨b, o, none⟩) hb
theorem below_atF {B : Nat} {w w' : World} (h : Below B w w') {b : Nat} (o : Nat) (hb : b < B) : w'.frozen? ⟨b, o, none⟩ = w.frozen? ⟨b, o, none⟩ := h.frozen (p := ⟨b, o, none⟩) hb
theorem below_set {B : Nat} {w w' : World} (h : Below B w w') {b : Nat} (o : Nat) (hb : B ≤ b) (u : Value) : Below B w (w'.setCell ⟨b, o, none⟩ u) := h.setCell (p := ⟨b, o, none⟩) hb u
/-- Cell o of block r is the call's own and holds u. -/
def Slot (w : World) (r o : Nat) (u : Value) : Prop := w.cell? ⟨r, o, none⟩ = some u ∧ w.frozen? ⟨r, o, none⟩ = false
theorem Slot.below {B : Nat} {w w' : World} {r o : Nat} {u : Value} (h : Slot w r o u) (hb : Below B w w') (hr : r < B) : Slot w' r o u := ⟨(below_at hb o hr).trans h.1, (below_atF hb o hr).trans h.2⟩
theorem slot_new (w : World) (u : Value) (t : TypeId) (r : Nat) (hr : r = w.heap.size) : Slot (w.alloc (.cells #[u] t)) r 0 u := ⟨by rw [World.cell?_alloc_at _ _ _ _ hr]; rfl, by rw [World.frozen?_alloc_at _ _ _ _ hr]⟩

/-- n cells hold the lowest n limbs of z. -/
def Row (w : World) (B : Nat) (a : Option Addr) (n : Nat) (z : Int) : Prop :=
  0 < n → ∃ g o, a = some ⟨g, o, none⟩ ∧ g < B ∧ ∀ j, j < n → w.cell? ⟨g, o + j, none⟩ = some (.int .u64 (lz z j))
theorem Row.below {w w' : World} {B : Nat} {a : Option Addr} {n : Nat} {z : Int} (h : Row w B a n z) (hb : Below B w w') : Row w' B a n z := fun hn => by
  obtain ⟨g, o, e, hg, hc⟩ := h hn
  exact ⟨g, o, e, hg, fun j hj => (hb.cell (p := ⟨g, o + j, none⟩) hg).trans (hc j hj)⟩
theorem Row.mono {w : World} {B B' : Nat} {a : Option Addr} {n : Nat} {z : Int} (h : Row w B a n z) (hb : B ≤ B') : Row w B' a n z := fun hn => by
  obtain ⟨g, o, e, hg, hc⟩ := h hn
  exact ⟨g, o, e, Nat.lt_of_lt_of_le hg hb, hc⟩
theorem Row.less {w : World} {B : Nat} {a : Option Addr} {n m : Nat} {z : Int} (h : Row w B a n z) (hb : m ≤ n) : Row w B a m z := fun hn => by
  obtain ⟨g, o, e, hg, hc⟩ := h (by omega)
  exact ⟨g, o, e, hg, fun j hj => hc j (by omega)⟩
/-- The slice v is that of the natural number x. -/
def NatV (w : World) (v : Value) (x : Int) : Prop :=
  0 ≤ x ∧ nl x ≤ 100000 ∧ ∃ a, v = .slice a (nl x) (nl x) ∧ Row w w.heap.size a (nl x) x
theorem NatV.below {w w' : World} {v : Value} {x : Int} (h : NatV w v x) (hb : Below w.heap.size w w') : NatV w' v x := by
  obtain ⟨h1, h2, a, h3, h4⟩ := h
  exact ⟨h1, h2, a, h3, (h4.below hb).mono hb.size⟩
theorem NatV.zero (w : World) : NatV w (.slice none 0 0) 0 := ⟨Int.le_refl _, by rw [nl_zero]; omega, none, by rw [nl_zero], fun h => absurd h (by rw [nl_zero]; omega)⟩

/-- The call hands back the natural number x. -/
def GivesN (x : Int) (w : World) (e : Ending) (w' : World) : Prop := ∃ v, e = .returned (.agg #[v]) ∧ NatV w' v x ∧ Below w.heap.size w w'

theorem NatV.mk {w : World} {B : Nat} {a : Option Addr} {n : Nat} {x : Int} (h0 : 0 ≤ x) (hn : n = nl x) (hm : n ≤ 100000) (hr : Row w B a n x) (hB : B ≤ w.heap.size) : NatV w (.slice a n n) x := by
  subst hn; exact ⟨h0, hm, a, rfl, hr.mono hB⟩
theorem NatV.form {w : World} {v : Value} {x : Int} (h : NatV w v x) : ∃ a n, v = .slice a n n ∧ n = nl x ∧ n ≤ 100000 ∧ 0 ≤ x ∧ x < bp n ∧ Row w w.heap.size a n x := by
  obtain ⟨h1, h2, a, h3, h4⟩ := h
  exact ⟨a, nl x, h3, rfl, h2, h1, nl_lt h1, h4⟩
theorem trim_post {a : Option Addr} {k : Nat} {z : Int} {w : World} (o : Obj) (h0 : 0 ≤ z) (hn : k = nl z) (hm : k ≤ 100000) (hr : Row w w.heap.size a k z) : GivesN z w (.returned (.agg #[.slice a k k])) (w.alloc o) :=
  ⟨_, rfl, (NatV.mk h0 hn hm hr (Nat.le_refl _)).below ((Below.refl _ _).alloc (Nat.le_refl _) _), (Below.refl _ _).alloc (Nat.le_refl _) _⟩

theorem trim_any (a : Option Addr) (n c : Nat) (z : Int) (w : World) (hz : 0 ≤ z) (hz' : z < bp n) (hc : n ≤ c) (hm : n ≤ 100000) (hr : Row w w.heap.size a n z) :
    Calls Tryz.prog 113 #[.slice a n c] w (GivesN z w) := by
  have HZ := Lib.hid hz'
  have HR := Lib.hid hr
  clear hr hz'
  go_enter Tryz.func113, Tryz.ntmps113
  go_wp2
  go_loop [3] (fun v => ∃ k : Nat, k ≤ n ∧ z < bp k ∧ v = .int .i64 k) (fun v => (intOf v).toNat)
  case atStart => exact ⟨n, by omega, HZ.out, rfl⟩
  case round =>
    obtain ⟨k, hk, hzk, rfl⟩ := hrel
    have HK := Lib.hid hzk
    clear hzk
    rcases Nat.eq_zero_or_pos k with hk0 | hk0
    · subst hk0
      go_wp2
      have hz0 : z = 0 := by have := HK.out; rw [bp_zero] at this; omega
      exact bodyPost_ret (v := .agg #[.slice a 0 0]) (by simp [results, Tryz.results113, go_sem]) rfl (trim_post _ hz (by rw [hz0, nl_zero]) (by omega) (HR.out.less (by omega)))
    · obtain ⟨g, o, rfl, hg, hcl⟩ := HR.out (by omega)
      have hcell := hcl (k - 1) (by omega)
      have hb := lz_bd z (k - 1)
      clear hcl
      go_wp2
      · have e : lz z (k - 1) = 0 := by simpa using ‹(lz z (k - 1) == 0) = true›
        go_round
        case rel => exact ⟨k - 1, by omega, lt_of_top hz (by rw [show k - 1 + 1 = k by omega]; exact HK.out) e, by go_num⟩
        case measure => simp [intOf]; omega
      · have e : lz z (k - 1) ≠ 0 := by simpa using ‹(lz z (k - 1) == 0) = false›
        have hn : k = nl z := by
          have := nl_of_top (k := k - 1) hz (by rw [show k - 1 + 1 = k by omega]; exact HK.out) e
          omega
        exact bodyPost_ret (v := .agg #[.slice (some ⟨g, o, none⟩) k k]) (by simp [results, Tryz.results113, go_sem]) rfl (trim_post _ hz hn (by omega) (HR.out.less hk))

/-! ### Cells that are written -/
/-- w' is w, but for n cells of block g from o on, which hold f 0, f 1 .. -/
structure Cells (w w' : World) (g o n : Nat) (f : Nat → Int) : Prop where
  os : w'.os = w.os
  tape : w'.tape = w.tape
  output : w'.output = w.output
  size : w'.heap.size = w.heap.size
  block : ∀ k, k ≠ g → w'.heap[k]? = w.heap[k]?
  cells : ∀ j, j < n → w'.cell? ⟨g, o + j, none⟩ = some (.int .u64 (f j))
  rest : ∀ i, i < o ∨ o + n ≤ i → w'.cell? ⟨g, i, none⟩ = w.cell? ⟨g, i, none⟩
  frozen : ∀ i, w'.frozen? ⟨g, i, none⟩ = w.frozen? ⟨g, i, none⟩
theorem Cells.start {w : World} {g o n : Nat} {f : Nat → Int} (h : ∀ j, j < n → w.cell? ⟨g, o + j, none⟩ = some (.int .u64 (f j))) : Cells w w g o n f :=
  ⟨rfl, rfl, rfl, rfl, fun _ _ => rfl, h, fun _ _ => rfl, fun _ => rfl⟩
theorem Cells.cong {w w' : World} {g o n : Nat} {f f' : Nat → Int} (h : Cells w w' g o n f) (e : ∀ j, j < n → f' j = f j) : Cells w w' g o n f' :=
  { h with cells := fun j hj => by rw [e j hj]; exact h.cells j hj }
theorem Cells.set {w w' : World} {g o n : Nat} {f f' : Nat → Int} (h : Cells w w' g o n f) {i : Nat} (hi : i < n) (t : Int) (e : ∀ j, j < n → f' j = if j = i then t else f j) :
    Cells w (w'.setCell ⟨g, o + i, none⟩ (.int .u64 t)) g o n f' where
  os := h.os
  tape := h.tape
  output := h.output
  size := by rw [World.size_setCell]; exact h.size
  block := fun k hk => by rw [Below.heap_setCell _ _ _ _ hk]; exact h.block k hk
  cells := fun j hj => by
    rw [e j hj]
    by_cases hji : j = i
    · subst hji; rw [if_pos rfl, World.cell?_setCell_same w' _ _ (h.cells j hj)]
    · rw [if_neg hji, World.cell?_setCell_other w' _ _ _ (by intro e; injection e; omega), h.cells j hj]
  rest := fun k hk => by rw [World.cell?_setCell_other w' _ _ _ (by intro e; injection e; omega), h.rest k hk]
  frozen := fun k => by rw [World.frozen?_setCell]; exact h.frozen k
theorem Cells.set2 {w w' : World} {g o n : Nat} {f f' : Nat → Int} (h : Cells w w' g o n f) {i : Nat} (hi : i < n) (t' t : Int) (e : ∀ j, j < n → f' j = if j = i then t else f j) :
    Cells w ((w'.setCell ⟨g, o + i, none⟩ (.int .u64 t')).setCell ⟨g, o + i, none⟩ (.int .u64 t)) g o n f' :=
  (h.set hi t' (f' := fun j => if j = i then t' else f j) (fun _ _ => rfl)).set hi t (fun j hj => by
    rw [e j hj]; by_cases h : j = i
    · rw [if_pos h, if_pos h]
    · rw [if_neg h, if_neg h, if_neg h])
theorem Cells.below {w w' : World} {g o n : Nat} {f : Nat → Int} {B : Nat} (h : Cells w w' g o n f) (hB : B ≤ g) : Below B w w' :=
  ⟨h.os, h.tape, h.output, Nat.le_of_eq h.size.symm, fun k hk => h.block k (by omega)⟩
theorem Cells.other {w w' : World} {g o n : Nat} {f : Nat → Int} (h : Cells w w' g o n f) {b i : Nat} (hb : b ≠ g) : w'.cell? ⟨b, i, none⟩ = w.cell? ⟨b, i, none⟩ := World.cell?_of_block (w := w) (h.block b hb)
theorem Cells.otherF {w w' : World} {g o n : Nat} {f : Nat → Int} (h : Cells w w' g o n f) {b i : Nat} (hb : b ≠ g) : w'.frozen? ⟨b, i, none⟩ = w.frozen? ⟨b, i, none⟩ := World.frozen?_of_block (w := w) (h.block b hb)

/-- The call hands back t and has written the cells. -/
def GivesC (t : Int) (w : World) (g o n : Nat) (z : Int) (e : Ending) (w' : World) : Prop := e = .returned (.int .u64 t) ∧ Cells w w' g o n (lz z)

theorem addTo_any (g o n c : Nat) (a : Option Addr) (m d : Nat) (x y : Int) (w : World) (hn : n ≤ 100000) (hmn : m ≤ n) (hx : 0 ≤ x) (hx' : x < bp n) (hy : 0 ≤ y) (hy' : y < bp m)
    (hu : ∀ j, j < n → w.cell? ⟨g, o + j, none⟩ = some (.int .u64 (lz x j))) (hf : ∀ j, j < n → w.frozen? ⟨g, o + j, none⟩ = false) (hv : Row w g a m y) :
    Calls Tryz.prog 112 #[.slice (some ⟨g, o, none⟩) n c, .slice a m d] w (GivesC ((x + y) / bp n) w g o n (x + y)) := by
  have HY := Lib.hid hy'
  have HX := Lib.hid hx'
  have HU := Lib.hid hu
  have HF := Lib.hid hf
  have HV := Lib.hid hv
  clear hy' hx' hu hf hv
  go_enter Tryz.func112, Tryz.ntmps112
  go_wp2
  go_loopw [5, 6, 9] (fun s _ i wr => ∃ k : Nat, k ≤ n ∧ i = .int .i64 k ∧ s = .int .u64 (mx 1 1 x y k) ∧ Cells w wr g o n (fun j => if j < k then lz (x + y) j else lz x j)) (fun _ _ i _ => n - (intOf i).toNat)
  case atStart => exact ⟨0, by omega, rfl, by rw [mx_zero], Cells.start (fun j hj => by rw [if_neg (by omega)]; exact HU.out j hj)⟩
  case round =>
    obtain ⟨k, hk, rfl, rfl, hC⟩ := hrel
    have HC := Lib.hid hC
    clear hC
    by_cases hlt : k < n
    · have hc1 := HC.out.cells k hlt
      rw [if_neg (by omega)] at hc1
      have hfr := (HC.out.frozen (o + k)).trans (HF.out k hlt)
      have hb1 := lz_bd x k
      have hb2 := lz_bd y k
      obtain ⟨hq0, hq1⟩ := mx_le x y k (show (0 : Int) ≤ 1 by omega) (show (0 : Int) ≤ 1 by omega)
      obtain ⟨hs1, hs2⟩ := mx_step 1 1 x y k
      have HS1 : Hid ((mx 1 1 x y k + lz x k + lz y k) % 1000000000 = lz (x + y) k) := by
        have e : (1 : Int) * x + 1 * y = x + y := by omega
        rw [← e, ← hs1]; congr 1; omega
      have HS2 : Hid ((mx 1 1 x y k + lz x k + lz y k) / 1000000000 = mx 1 1 x y (k + 1)) := by
        rw [← hs2]; congr 1; omega
      clear hs1 hs2
      generalize mx 1 1 x y k = q at *
      by_cases hm : k < m
      · obtain ⟨g', o', rfl, hg', hcv⟩ := HV.out (by omega)
        have hc2 := (HC.out.other (i := o' + k) (show g' ≠ g by omega)).trans (hcv k hm)
        clear hcv
        generalize hlx : lz x k = lx at *
        generalize hly : lz y k = ly at *
        have HLX := Lib.hid hlx
        have HLY := Lib.hid hly
        clear hlx hly
        go_wp2
        go_roundw
        case rel => exact ⟨k + 1, by omega, by go_num, by rw [← HS2.out], HC.out.set hlt _ (fun j hj => by
          by_cases h1 : j = k
          · subst h1; rw [if_pos (by omega), if_pos rfl, ← HS1.out]
          · rw [if_neg h1]; by_cases h2 : j < k
            · rw [if_pos h2, if_pos (by omega)]
            · rw [if_neg h2, if_neg (by omega)])⟩
        case measure => simp [intOf]; omega
      · have hz : lz y k = 0 := lz_high hy HY.out (by omega)
        rw [hz, Int.add_zero] at HS1 HS2
        generalize hlx : lz x k = lx at *
        have HLX := Lib.hid hlx
        clear hlx hz hb2
        go_wp2
        go_roundw
        case rel => exact ⟨k + 1, by omega, by go_num, by rw [← HS2.out], HC.out.set hlt _ (fun j hj => by
          by_cases h1 : j = k
          · subst h1; rw [if_pos (by omega), if_pos rfl, ← HS1.out]
          · rw [if_neg h1]; by_cases h2 : j < k
            · rw [if_pos h2, if_pos (by omega)]
            · rw [if_neg h2, if_neg (by omega)])⟩
        case measure => simp [intOf]; omega
    · obtain rfl : k = n := by omega
      go_wp2
      go_ret
      exact ⟨ret_int (by rw [mx_end hx HX.out hy (Int.lt_of_lt_of_le HY.out (bp_mono hmn))]; congr 1; omega), HC.out.cong (fun j hj => by rw [if_pos hj])⟩

/-- Where the lower limb is less, a base is lent. -/
theorem lend (o u : Int) (hu : 0 ≤ u ∧ u < 1000000000) : (u < o % 1000000000 → (u - o) % 1000000000 = u + 1000000000 - o % 1000000000 ∧ -((u - o) / 1000000000) = o / 1000000000 + 1) ∧ (o % 1000000000 ≤ u → (u - o) % 1000000000 = u - o % 1000000000 ∧ -((u - o) / 1000000000) = o / 1000000000) := by
  refine ⟨fun h => ⟨by omega, by omega⟩, fun h => ⟨by omega, by omega⟩⟩
theorem takeFrom_any (g o n c : Nat) (a : Option Addr) (m d : Nat) (x y q : Int) (w : World) (hn : n ≤ 100000) (hmn : m ≤ n) (hx : 0 ≤ x) (hx' : x < bp n) (hy : 0 ≤ y) (hy' : y < bp m) (hq : 0 ≤ q) (hq' : q ≤ 1000000000)
    (hu : ∀ j, j < n → w.cell? ⟨g, o + j, none⟩ = some (.int .u64 (lz x j))) (hf : ∀ j, j < n → w.frozen? ⟨g, o + j, none⟩ = false) (hv : Row w g a m y) :
    Calls Tryz.prog 116 #[.slice (some ⟨g, o, none⟩) n c, .slice a m d, .int .u64 q] w (GivesC (-((x - q * y) / bp n)) w g o n (x - q * y)) := by
  have HY := Lib.hid hy'
  have HX := Lib.hid hx'
  have HU := Lib.hid hu
  have HF := Lib.hid hf
  have HV := Lib.hid hv
  clear hy' hx' hu hf hv
  have etot : (1 : Int) * x + (-q) * y = x - q * y := by rw [Int.neg_mul]; omega
  have ET := Lib.hid etot
  clear etot
  go_enter Tryz.func116, Tryz.ntmps116
  go_wp2
  go_loopw [7, 8, 9, 12] (fun s _ _ i wr => ∃ (k : Nat) (t : Int), k ≤ n ∧ i = .int .i64 k ∧ s = .int .u64 t ∧ Hid (t = -(mx 1 (-q) x y k)) ∧ Cells w wr g o n (fun j => if j < k then lz (x - q * y) j else lz x j)) (fun _ _ _ i _ => n - (intOf i).toNat)
  case atStart => exact ⟨0, 0, by omega, rfl, rfl, by show _ = _; rw [mx_zero]; rfl, Cells.start (fun j hj => by rw [if_neg (by omega)]; exact HU.out j hj)⟩
  case round =>
    obtain ⟨k, t, hk, rfl, rfl, HT, hC⟩ := hrel
    have HC := Lib.hid hC
    clear hC
    by_cases hlt : k < n
    · have hc1 := HC.out.cells k hlt
      rw [if_neg (by omega)] at hc1
      have hfr := (HC.out.frozen (o + k)).trans (HF.out k hlt)
      have hb1 := lz_bd x k
      have hb2 := lz_bd y k
      have hT : 0 ≤ t ∧ t ≤ 1000000001 := by
        have h1 := HT.out
        have h2 := mod_bd x k
        have h3 := mod_bd y k
        have hp := bp_pos k
        have e : mx 1 (-q) x y k = (x % bp k - q * (y % bp k)) / bp k := by unfold mx; rw [Int.neg_mul]; congr 1; omega
        have m1 := Int.mul_le_mul_of_nonneg_left (Int.le_of_lt h3.2) hq
        have m2 := Int.mul_le_mul_of_nonneg_right hq' (Int.le_of_lt hp)
        have m3 := Int.mul_nonneg hq h3.1
        have l1 : -1000000001 ≤ (x % bp k - q * (y % bp k)) / bp k := Int.le_ediv_of_mul_le hp (by omega)
        have l2 : (x % bp k - q * (y % bp k)) / bp k ≤ 0 := by
          have h5 := Int.ediv_le_ediv hp (show x % bp k - q * (y % bp k) ≤ bp k - 1 by omega)
          have h6 : (bp k - 1) / bp k = 0 := Int.ediv_eq_zero_of_lt (by omega) (by omega)
          omega
        rw [e] at h1
        clear e m1 m2 m3 h2 h3
        omega
      obtain ⟨hs1, hs2⟩ := mx_step 1 (-q) x y k
      rw [ET.out] at hs1
      have hqy : 0 ≤ q * lz y k ∧ q * lz y k ≤ 1000000000000000000 := by
        refine ⟨Int.mul_nonneg hq hb2.1, ?_⟩
        have m1 := Int.mul_le_mul_of_nonneg_left (Int.le_of_lt hb2.2) hq
        omega
      have e0 : mx 1 (-q) x y k + (1 * lz x k + -q * lz y k) = lz x k - (t + q * lz y k) := by rw [HT.out, Int.neg_mul]; omega
      rw [e0] at hs1 hs2
      have hl := lend (t + q * lz y k) (lz x k) hb1
      rw [hs1, hs2] at hl
      have HL := Lib.hid hl
      clear hs1 hs2 e0 hl HT ET
      have fin : ∀ v, v = lz (x - q * y) k → ∀ j, j < n → (if j < k + 1 then lz (x - q * y) j else lz x j) = if j = k then v else if j < k then lz (x - q * y) j else lz x j := by
        intro v hv j hj
        by_cases h1 : j = k
        · subst h1; rw [if_pos (by omega), if_pos rfl, hv]
        · rw [if_neg h1]; by_cases h2 : j < k
          · rw [if_pos h2, if_pos (by omega)]
          · rw [if_neg h2, if_neg (by omega)]
      have FIN := Lib.hid fin
      clear fin
      by_cases hm : k < m
      · obtain ⟨g', o', rfl, hg', hcv⟩ := HV.out (by omega)
        have hc2 := (HC.out.other (i := o' + k) (show g' ≠ g by omega)).trans (hcv k hm)
        clear hcv
        generalize hlx : lz x k = lx at *
        generalize hly : lz y k = ly at *
        obtain ⟨hqy1, hqy2⟩ := hqy
        clear hlx hly
        by_cases hle : lx < (t + q * ly) % 1000000000
        · go_wp2
          go_roundw
          case rel => exact ⟨k + 1, _, by omega, by go_num, rfl, (HL.out.1 hle).2.symm, HC.out.set2 hlt _ _ (FIN.out _ (by rw [(HL.out.1 hle).1]))⟩
          case measure => simp [intOf]; omega
        · have hle' : (t + q * ly) % 1000000000 ≤ lx := by omega
          go_wp2
          go_roundw
          case rel => exact ⟨k + 1, _, by omega, by go_num, rfl, (HL.out.2 hle').2.symm, HC.out.set hlt _ (FIN.out _ (by rw [(HL.out.2 hle').1]))⟩
          case measure => simp [intOf]; omega
      · have hz : lz y k = 0 := lz_high hy HY.out (by omega)
        rw [hz, Int.mul_zero, Int.add_zero] at HL
        generalize hlx : lz x k = lx at *
        clear hlx hz hb2 hqy HV
        by_cases hle : lx < t % 1000000000
        · go_wp2
          go_roundw
          case rel => exact ⟨k + 1, _, by omega, by go_num, rfl, (HL.out.1 hle).2.symm, HC.out.set2 hlt _ _ (FIN.out _ (by rw [(HL.out.1 hle).1]))⟩
          case measure => simp [intOf]; omega
        · have hle' : t % 1000000000 ≤ lx := by omega
          go_wp2
          go_roundw
          case rel => exact ⟨k + 1, _, by omega, by go_num, rfl, (HL.out.2 hle').2.symm, HC.out.set hlt _ (FIN.out _ (by rw [(HL.out.2 hle').1]))⟩
          case measure => simp [intOf]; omega
    · obtain rfl : k = n := by omega
      go_wp2
      go_ret
      exact ⟨ret_int (by rw [HT.out, mx_end hx HX.out hy (Int.lt_of_lt_of_le HY.out (bp_mono hmn)), ET.out]), HC.out.cong (fun j hj => by rw [if_pos hj])⟩
end Go.Proofs.YtphbfjcaehiboaaGreatDoor
namespace Go.Proofs.YtphbfjcaehiboaaGreatDoor
open Go.RowKit

/-- After an even number of steps (an odd one: with a and b exchanged). -/
structure Lh (x0 y0 va vb wa wb x y : Int) : Prop where
  ex : x = va * x0 + vb * y0
  ey : y = wa * x0 + wb * y0
  det : va * wb - vb * wa = 1
  va1 : 1 ≤ va
  vb0 : vb ≤ 0
  wa0 : wa ≤ 0
  wb1 : 1 ≤ wb
  x0' : 0 ≤ x
  y0' : 0 ≤ y
  xb : 0 ≤ x + vb
  vaM : va < 1000000000
  vbM : -1000000000 < vb
  waM : -1000000000 < wa
  wbM : wb < 1000000000
theorem Lh.start {x0 y0 : Int} (hx : 0 ≤ x0) (hy : 0 ≤ y0) : Lh x0 y0 1 0 0 1 x0 y0 :=
  ⟨by omega, by omega, by decide, by decide, by decide, by decide, by decide, hx, hy, by omega, by decide, by decide, by decide, by decide⟩
theorem sq_lt {a b : Int} (ha : 0 ≤ a) (h : a * b < 1000000000000000000) (hab : a ≤ b) : a < 1000000000 := by
  rcases Int.lt_or_le a 1000000000 with h1 | h1
  · exact h1
  · have h2 := Int.mul_le_mul h1 (Int.le_trans h1 hab) (by omega) ha
    omega
/-- What a quotient gives. -/
theorem quo_bd {a b q : Int} (hb : 0 < b) (h : a / b = q) : q * b ≤ a ∧ a < q * b + b := by
  have h1 := Int.mul_ediv_add_emod a b
  have h2 := Int.emod_nonneg a (show b ≠ 0 by omega)
  have h3 := Int.emod_lt_of_pos a hb
  rw [h, Int.mul_comm] at h1
  omega
theorem Lh.next {x0 y0 va vb wa wb x y q : Int} (h : Lh x0 y0 va vb wa wb x y) (hx9 : x0 < 1000000000000000000) (hy9 : y0 < 1000000000000000000)
    (ha : 0 < y + wa) (hb : 0 < y + wb) (qa : (x + va) / (y + wa) = q) (qb : (x + vb) / (y + wb) = q) :
    Lh y0 x0 wb wa (vb - q * wb) (va - q * wa) y (x - q * y) ∧ x - q * y < y ∧ 0 ≤ q ∧ q ≤ x + va := by
  obtain ⟨ex, ey, det, va1, vb0, wa0, wb1, x0', y0', xb, vaM, vbM, waM, wbM⟩ := h
  obtain ⟨a1, a2⟩ := quo_bd ha qa
  obtain ⟨b1, b2⟩ := quo_bd hb qb
  have hq : 0 ≤ q := by rw [← qa]; exact Int.ediv_nonneg (by omega) (by omega)
  have hqx : q ≤ x + va := by rw [← qa]; exact Int.ediv_le_self _ (by omega)
  have k1 : 0 ≤ q * (-wa) := Int.mul_nonneg hq (by omega)
  have k2 : 0 ≤ q * wb := Int.mul_nonneg hq (by omega)
  rw [Int.mul_neg] at k1
  rw [Int.mul_add] at a1 a2 b1 b2
  have w1 : 1 ≤ va - q * wa := by omega
  have w0 : vb - q * wb ≤ 0 := by omega
  have y1 : 0 ≤ x - q * y := by omega
  have y2 : x - q * y < y := by omega
  have n1 : va - q * wa ≤ y := by omega
  have n2 : -(vb - q * wb) ≤ y := by omega
  have i1 : y * (va - q * wa) - (x - q * y) * wa = y0 := by grind
  have i2 : (x - q * y) * wb - y * (vb - q * wb) = x0 := by grind
  have j1 : 0 ≤ (x - q * y) * (-wa) := Int.mul_nonneg y1 (by omega)
  have j2 : 0 ≤ (x - q * y) * wb := Int.mul_nonneg y1 (by omega)
  rw [Int.mul_neg] at j1
  have m1 := sq_lt (show 0 ≤ va - q * wa by omega) (b := y) (by rw [Int.mul_comm]; omega) n1
  have m2 := sq_lt (show 0 ≤ -(vb - q * wb) by omega) (b := y) (by rw [Int.mul_comm, Int.mul_neg]; omega) n2
  exact ⟨⟨by grind, by grind, by grind, wb1, wa0, w0, w1, y0', y1, by omega, wbM, waM, by omega, m1⟩, y2, hq, hqx⟩
/-- The next remainder lies below the last one, whatever the other limbs are. -/
theorem Lh.tail {x0 y0 va vb wa wb x y q : Int} (h : Lh x0 y0 va vb wa wb x y) (ha : 0 < y + wa) (hb : 0 < y + wb) (qa : (x + va) / (y + wa) = q) (qb : (x + vb) / (y + wb) = q)
    {P e f : Int} (e0 : 0 ≤ e) (e1 : e < P) (f0 : 0 ≤ f) (f1 : f < P) :
    0 ≤ (va - q * wa) * (x0 * P + e) + (vb - q * wb) * (y0 * P + f) ∧ (va - q * wa) * (x0 * P + e) + (vb - q * wb) * (y0 * P + f) < wa * (x0 * P + e) + wb * (y0 * P + f) := by
  obtain ⟨ex, ey, det, va1, vb0, wa0, wb1, x0', y0', xb, vaM, vbM, waM, wbM⟩ := h
  obtain ⟨a1, a2⟩ := quo_bd ha qa
  obtain ⟨b1, b2⟩ := quo_bd hb qb
  have hq : 0 ≤ q := by rw [← qa]; exact Int.ediv_nonneg (by omega) (by omega)
  have k1 : 0 ≤ q * (-wa) := Int.mul_nonneg hq (by omega)
  have k2 : 0 ≤ q * wb := Int.mul_nonneg hq (by omega)
  rw [Int.mul_neg] at k1
  have t1 := Int.mul_nonneg (show 0 ≤ (x + vb) - q * (y + wb) by omega) (show 0 ≤ P by omega)
  have t2 := Int.mul_nonneg (show 0 ≤ va - q * wa by omega) e0
  have t3 := Int.mul_nonneg (show 0 ≤ q * wb - vb by omega) (show 0 ≤ P - f by omega)
  have u1 := Int.mul_le_mul (show 1 ≤ (y + wa) - ((x + va) - q * (y + wa)) by omega) (show 1 ≤ P by omega) (by omega) (by omega)
  have u2 := Int.mul_nonneg (show 0 ≤ va - q * wa - wa by omega) (show 0 ≤ P - e by omega)
  have u3 := Int.mul_nonneg (show 0 ≤ wb - (vb - q * wb) by omega) f0
  have z1 : (va - q * wa) * (x0 * P + e) + (vb - q * wb) * (y0 * P + f) = ((x + vb) - q * (y + wb)) * P + (va - q * wa) * e + (q * wb - vb) * (P - f) := by grind
  have z2 : wa * (x0 * P + e) + wb * (y0 * P + f) - ((va - q * wa) * (x0 * P + e) + (vb - q * wb) * (y0 * P + f)) = ((y + wa) - ((x + va) - q * (y + wa))) * P + (va - q * wa - wa) * (P - e) + (wb - (vb - q * wb)) * f := by grind
  omega
/-- Factors of determinant 1 or -1 keep the greatest common divisor. -/
theorem gcd_blend {va vb wa wb A B : Int} (h : va * wb - vb * wa = 1 ∨ va * wb - vb * wa = -1) : Int.gcd (va * A + vb * B) (wa * A + wb * B) = Int.gcd A B := by
  apply Nat.dvd_antisymm
  · apply Int.dvd_gcd
    · obtain ⟨s, hs⟩ := Int.gcd_dvd_left (va * A + vb * B) (wa * A + wb * B)
      obtain ⟨t, ht⟩ := Int.gcd_dvd_right (va * A + vb * B) (wa * A + wb * B)
      rcases h with h | h
      · exact ⟨wb * s - vb * t, by grind⟩
      · exact ⟨vb * t - wb * s, by grind⟩
    · obtain ⟨s, hs⟩ := Int.gcd_dvd_left (va * A + vb * B) (wa * A + wb * B)
      obtain ⟨t, ht⟩ := Int.gcd_dvd_right (va * A + vb * B) (wa * A + wb * B)
      rcases h with h | h
      · exact ⟨va * t - wa * s, by grind⟩
      · exact ⟨wa * s - va * t, by grind⟩
  · apply Int.dvd_gcd
    · obtain ⟨s, hs⟩ := Int.gcd_dvd_left A B
      obtain ⟨t, ht⟩ := Int.gcd_dvd_right A B
      exact ⟨va * s + vb * t, by grind⟩
    · obtain ⟨s, hs⟩ := Int.gcd_dvd_left A B
      obtain ⟨t, ht⟩ := Int.gcd_dvd_right A B
      exact ⟨wa * s + wb * t, by grind⟩
end Go.Proofs.YtphbfjcaehiboaaGreatDoor
namespace Go.Proofs.YtphbfjcaehiboaaGreatDoor
/-- The sign that goes with minus. -/
def mg (mn : Bool) : Int := if mn then -1 else 1
theorem mg_not (mn : Bool) : mg (!mn) = - mg mn := by cases mn <;> rfl
theorem mg_bne_true (mn : Bool) : mg (mn != true) = - mg mn := by cases mn <;> rfl
theorem mg_bne_false (mn : Bool) : mg (mn != false) = mg mn := by cases mn <;> rfl
/-- What a stage of Euclid's algorithm keeps. -/
structure RI (M m C a b s t : Int) (mn : Bool) : Prop where
  a0 : 0 ≤ a
  b0 : 0 ≤ b
  s0 : 0 ≤ s
  t0 : 0 ≤ t
  c : a * t + b * s = C
  sD : s ≤ 2000000000 * (C + 1)
  tD : t ≤ 2000000000 * (C + 1)
  d1 : m ∣ a - mg mn * (s * M)
  d2 : m ∣ b + mg mn * (t * M)
theorem RI.C0 {M m C a b s t : Int} {mn : Bool} (h : RI M m C a b s t mn) : 0 ≤ C := by
  have h1 := Int.mul_nonneg h.a0 h.t0
  have h2 := Int.mul_nonneg h.b0 h.s0
  have := h.c
  omega
theorem RI.sC {M m C a b s t : Int} {mn : Bool} (h : RI M m C a b s t mn) (hb : 0 < b) : s ≤ C := by
  have h1 := Int.mul_nonneg h.a0 h.t0
  have h2 : 1 * s ≤ b * s := Int.mul_le_mul_of_nonneg_right (by omega) h.s0
  have := h.c
  omega
theorem RI.tC {M m C a b s t : Int} {mn : Bool} (h : RI M m C a b s t mn) (ha : 0 < a) : t ≤ C := by
  have h1 := Int.mul_nonneg h.b0 h.s0
  have h2 : 1 * t ≤ a * t := Int.mul_le_mul_of_nonneg_right (by omega) h.t0
  have := h.c
  omega
theorem RI.step {M m C a b s t : Int} {mn : Bool} (h : RI M m C a b s t mn) (hb : 0 < b) : RI M m C b (a % b) t (s + a / b * t) (!mn) := by
  have hq : 0 ≤ a / b := Int.ediv_nonneg h.a0 h.b0
  have ht := Int.mul_nonneg hq h.t0
  have e := Int.mul_ediv_add_emod a b
  have hc : b * (s + a / b * t) + a % b * t = C := by
    have := h.c
    grind
  have hr : 0 ≤ a % b := Int.emod_nonneg _ (by omega)
  have h1 := Int.mul_nonneg hr h.t0
  have h0 := h.s0
  have h2 : 1 * (s + a / b * t) ≤ b * (s + a / b * t) := Int.mul_le_mul_of_nonneg_right (by omega) (by omega)
  have hC := h.C0
  refine ⟨h.b0, hr, h.t0, by omega, hc, h.tD, by omega, ?_, ?_⟩
  · rw [mg_not]
    have := h.d2
    rwa [show b - -mg mn * (t * M) = b + mg mn * (t * M) by grind]
  · rw [mg_not]
    obtain ⟨k, hk⟩ := h.d1
    obtain ⟨l, hl⟩ := h.d2
    exact ⟨k - a / b * l, by grind⟩
theorem RI.leap {M m C a b s t va vb wa wb : Int} {mn : Bool} (h : RI M m C a b s t mn) (ha : 0 < a) (hb : 0 < b)
    (hs : (0 ≤ va ∧ vb ≤ 0 ∧ wa ≤ 0 ∧ 0 ≤ wb ∧ va * wb - vb * wa = 1) ∨ (va ≤ 0 ∧ 0 ≤ vb ∧ 0 < wa ∧ wb ≤ 0 ∧ va * wb - vb * wa = -1))
    (va9 : -1000000000 < va ∧ va < 1000000000) (vb9 : -1000000000 < vb ∧ vb < 1000000000) (wa9 : -1000000000 < wa ∧ wa < 1000000000) (wb9 : -1000000000 < wb ∧ wb < 1000000000)
    (hA : 0 ≤ va * a + vb * b) (hB : 0 ≤ wa * a + wb * b) :
    RI M m C (va * a + vb * b) (wa * a + wb * b) (va.natAbs * s + vb.natAbs * t) (wa.natAbs * s + wb.natAbs * t) (mn != decide (wa > 0)) := by
  have hsC := h.sC hb
  have htC := h.tC ha
  have hC := h.C0
  have h0 := h.s0
  have h1 := h.t0
  have bd : ∀ p q : Int, 0 ≤ p → p < 1000000000 → 0 ≤ q → q < 1000000000 → 0 ≤ p * s + q * t ∧ p * s + q * t ≤ 2000000000 * (C + 1) := by
    intro p q p0 p9 q0 q9
    have a1 := Int.mul_nonneg p0 h0
    have a2 := Int.mul_nonneg q0 h1
    have a3 : p * s ≤ 1000000000 * s := Int.mul_le_mul_of_nonneg_right (by omega) h0
    have a4 : q * t ≤ 1000000000 * t := Int.mul_le_mul_of_nonneg_right (by omega) h1
    omega
  obtain ⟨e1, e2⟩ := bd va.natAbs vb.natAbs (by omega) (by omega) (by omega) (by omega)
  obtain ⟨e3, e4⟩ := bd wa.natAbs wb.natAbs (by omega) (by omega) (by omega) (by omega)
  obtain ⟨k, hk⟩ := h.d1
  obtain ⟨l, hl⟩ := h.d2
  have hc := h.c
  rcases hs with ⟨g1, g2, g3, g4, g5⟩ | ⟨g1, g2, g3, g4, g5⟩
  · have n1 : (va.natAbs : Int) = va := by omega
    have n2 : (vb.natAbs : Int) = -vb := by omega
    have n3 : (wa.natAbs : Int) = -wa := by omega
    have n4 : (wb.natAbs : Int) = wb := by omega
    rw [n1, n2] at e1 e2
    rw [n3, n4] at e3 e4
    rw [n1, n2, n3, n4, show decide (wa > 0) = false by rw [decide_eq_false_iff_not]; omega]
    refine ⟨hA, hB, e1, e3, ?_, e2, e4, ?_, ?_⟩
    · clear e1 e2 e3 e4 hk hl bd hA hB
      grind
    · rw [mg_bne_false]
      exact ⟨va * k + vb * l, by clear e1 e2 e3 e4 bd hA hB hc g5; grind⟩
    · rw [mg_bne_false]
      exact ⟨wa * k + wb * l, by clear e1 e2 e3 e4 bd hA hB hc g5; grind⟩
  · have n1 : (va.natAbs : Int) = -va := by omega
    have n2 : (vb.natAbs : Int) = vb := by omega
    have n3 : (wa.natAbs : Int) = wa := by omega
    have n4 : (wb.natAbs : Int) = -wb := by omega
    rw [n1, n2] at e1 e2
    rw [n3, n4] at e3 e4
    rw [n1, n2, n3, n4, show decide (wa > 0) = true by rw [decide_eq_true_eq]; omega]
    refine ⟨hA, hB, e1, e3, ?_, e2, e4, ?_, ?_⟩
    · clear e1 e2 e3 e4 hk hl bd hA hB
      grind
    · rw [mg_bne_true]
      exact ⟨va * k + vb * l, by clear e1 e2 e3 e4 bd hA hB hc g5; grind⟩
    · rw [mg_bne_true]
      exact ⟨wa * k + wb * l, by clear e1 e2 e3 e4 bd hA hB hc g5; grind⟩
theorem gcd_emod (a b : Int) : (Int.gcd b (a % b) : Int) = Int.gcd a b := by
  congr 1
  apply Nat.dvd_antisymm
  · apply Int.dvd_gcd
    · have h1 := Int.gcd_dvd_left b (a % b)
      have h2 := Int.gcd_dvd_right b (a % b)
      have e := Int.mul_ediv_add_emod a b
      have h3 := Int.dvd_add (Int.dvd_trans h1 (Int.dvd_mul_right b (a / b))) h2
      rwa [e] at h3
    · exact Int.gcd_dvd_left b (a % b)
  · apply Int.dvd_gcd
    · exact Int.gcd_dvd_right a b
    · have h1 := Int.gcd_dvd_left a b
      have h2 := Int.gcd_dvd_right a b
      have e := Int.mul_ediv_add_emod a b
      rw [show a % b = a - b * (a / b) by omega]
      exact Int.dvd_sub h1 (Int.dvd_trans h2 (Int.dvd_mul_right _ _))
/-- The period of the first factor: the quotient of |B| by the divisor. -/
def per (A B : Int) : Int := B.natAbs / (Int.gcd A B : Int)
theorem gcd_pos {A B : Int} (hB : B ≠ 0) : (0 : Int) < Int.gcd A B := by
  have : 0 < Int.gcd A B := Nat.pos_of_ne_zero (fun e => hB (Int.gcd_eq_zero_iff.1 e).2)
  omega
theorem per_mul {A B : Int} : per A B * Int.gcd A B = B.natAbs := by
  have h : (Int.gcd A B : Int) ∣ B.natAbs := Int.dvd_natAbs.2 (Int.gcd_dvd_right A B)
  exact Int.ediv_mul_cancel h
theorem per_pos {A B : Int} (hB : B ≠ 0) : 0 < per A B := by
  have h1 := per_mul (A := A) (B := B)
  have h2 := gcd_pos (A := A) hB
  rcases Int.lt_or_le 0 (per A B) with h | h
  · exact h
  · have := Int.mul_nonpos_of_nonpos_of_nonneg h (Int.le_of_lt h2)
    omega
theorem bez {A B s : Int} (hB : B ≠ 0) (h : B ∣ (Int.gcd A B : Int) - A * s) :
    0 ≤ s.fmod (per A B) ∧ s.fmod (per A B) < per A B ∧ A * s.fmod (per A B) + B * (((Int.gcd A B : Int) - A * s.fmod (per A B)).fdiv B) = Int.gcd A B ∧ (((Int.gcd A B : Int) - A * s.fmod (per A B)).fmod B) = 0 := by
  have hp := per_pos (A := A) hB
  have hm := per_mul (A := A) (B := B)
  have e1 : s.fmod (per A B) = s % per A B := Int.fmod_eq_emod_of_nonneg _ (by omega)
  have x0 : 0 ≤ s % per A B := Int.emod_nonneg _ (by omega)
  have x1 : s % per A B < per A B := Int.emod_lt_of_pos _ hp
  rw [e1]
  have hd : B ∣ (Int.gcd A B : Int) - A * (s % per A B) := by
    obtain ⟨k, hk⟩ := h
    obtain ⟨j, hj⟩ := Int.gcd_dvd_left A B
    have e := Int.mul_ediv_add_emod s (per A B)
    have hn : B ∣ per A B * Int.gcd A B := by rw [hm]; exact Int.dvd_natAbs.2 (Int.dvd_refl B)
    obtain ⟨l, hl⟩ := hn
    refine ⟨k + j * (s / per A B) * l, ?_⟩
    have : A * (s % per A B) = A * s - A * (per A B * (s / per A B)) := by rw [← Int.mul_sub]; congr 1; omega
    have h2 : A * (per A B * (s / per A B)) = B * (j * (s / per A B) * l) := by
      rw [show A * (per A B * (s / per A B)) = (Int.gcd A B : Int) * j * (per A B * (s / per A B)) by rw [← hj]]
      generalize (Int.gcd A B : Int) = g at *
      generalize per A B = p at *
      generalize s / p = q at *
      clear hk e this hj
      grind
    rw [this, Int.mul_add, ← h2]
    omega
  refine ⟨x0, x1, ?_, Int.fmod_eq_zero_of_dvd hd⟩
  have := Int.mul_fdiv_cancel' hd
  omega
theorem bez_y {A B x y : Int} (hB : B ≠ 0) (x0 : 0 ≤ x) (x1 : x < per A B) (h : A * x + B * y = Int.gcd A B) : y.natAbs ≤ max A.natAbs 1 := by
  have hm := per_mul (A := A) (B := B)
  have hg := gcd_pos (A := A) hB
  rcases Decidable.em (A = 0) with hA | hA
  · subst hA
    rw [Int.zero_mul, Int.zero_add, Int.gcd_zero_left] at h
    have : B.natAbs * y.natAbs = B.natAbs := by rw [← Int.natAbs_mul, h]; rfl
    have h3 : 0 < B.natAbs := by omega
    have h4 := Nat.eq_of_mul_eq_mul_left h3 (this.trans (Nat.mul_one _).symm)
    omega
  · have hle : (Int.gcd A B : Int) ≤ A.natAbs := by
      have := Nat.le_of_dvd (by omega) (Int.natAbs_dvd_natAbs.2 (Int.gcd_dvd_left A B))
      simpa using this
    have h3 : (B.natAbs : Int) * y.natAbs ≤ Int.gcd A B + A.natAbs * x := by
      have e : B * y = Int.gcd A B - A * x := by omega
      have e2 : ((B * y).natAbs : Int) = B.natAbs * y.natAbs := by rw [Int.natAbs_mul]; simp
      have e3 : ((A * x).natAbs : Int) = A.natAbs * x := by rw [Int.natAbs_mul, Int.natCast_mul, show (x.natAbs : Int) = x by omega]
      rw [← e2, e, ← e3]
      omega
    have h4 : (A.natAbs : Int) * x ≤ A.natAbs * (per A B - 1) := Int.mul_le_mul_of_nonneg_left (by omega) (by omega)
    have h5 : (A.natAbs : Int) * per A B ≤ A.natAbs * B.natAbs := Int.mul_le_mul_of_nonneg_left (by
      rw [← hm]
      have : per A B * 1 ≤ per A B * Int.gcd A B := Int.mul_le_mul_of_nonneg_left (by omega) (by omega)
      omega) (by omega)
    have h6 : (B.natAbs : Int) * y.natAbs ≤ B.natAbs * A.natAbs := by
      rw [Int.mul_sub, Int.mul_one] at h4
      rw [Int.mul_comm (B.natAbs : Int) (A.natAbs : Int)]
      omega
    have h7 := Int.le_of_mul_le_mul_left h6 (by omega)
    omega
end Go.Proofs.YtphbfjcaehiboaaGreatDoor
namespace Go.Proofs.YtphbfjcaehiboaaGreatDoor

section
variable {P : Program} {ops : Array Oper} {Q : Exit → Act → World → Prop} {md : Region.Mode} {S : World → Prop} {M : Nat}

/-- Whatever order is picked, and S holds behind every operation as long as operation M has not come up. -/
def wpTill (P : Program) (md : Region.Mode) (ops : Array Oper) (Q : Exit → Act → World → Prop) (S : World → Prop) (M : Nat) : Nat → Array Bool → Act → World → Prop
  | 0, listed, a, w => Region.ready md ops listed = [] ∧ Q .normal a w
  | fuel + 1, listed, a, w => (Region.ready md ops listed = [] → Q .normal a w) ∧
    ∀ i, i ∈ Region.ready md ops listed → wpOp P ops Q i (fun a' w' => ((listed.setIfInBounds i true).getD M true = false → S w') ∧ wpTill P md ops Q S M fuel (listed.setIfInBounds i true) a' w') a w

theorem wpTill.any : ∀ (fuel : Nat) (listed : Array Bool) (a : Act) (w : World), wpTill P md ops Q S M fuel listed a w → wpAny P md ops Q fuel listed a w
  | 0, _, _, _, h => h
  | n + 1, _, _, _, h => ⟨h.1, fun i hi => wpOp_mono (fun _ _ k => wpTill.any n _ _ _ k.2) (h.2 i hi)⟩

/-- The operations of D wait, in a chain, for operation i. -/
def chained (md : Region.Mode) (ops : Array Oper) (D : List Nat) (i : Nat) : Bool :=
  D.all fun d => d == i || match ops[d]? with
    | some o => o.after.any fun e => Region.binds md e && D.contains e.on
    | none => false

theorem chained_not {D : List Nat} {i j : Nat} {listed : Array Bool} (h : chained md ops D i = true) (hu : ∀ d, d ∈ D → listed.getD d true = false) (hj : j ∈ Region.ready md ops listed) (hne : j ≠ i) : j ∉ D := by
  intro hD
  obtain ⟨_, oj, hoj, hw⟩ := mem_ready.1 hj
  have h1 := List.all_eq_true.1 h j hD
  rw [hoj] at h1
  rw [Bool.or_eq_true] at h1
  rcases h1 with h1 | h1
  · exact hne (by simpa using h1)
  · obtain ⟨k, hk, he⟩ := Array.any_eq_true.1 h1
    rw [Bool.and_eq_true] at he
    have h2 := hw _ (Array.getElem_mem hk) he.1
    have h3 := hu _ (by simpa using he.2)
    rcases Nat.lt_or_ge (oj.after[k]).on listed.size with q | q
    · simp [q] at h2 h3
      rw [h2] at h3
      cases h3
    · simp [Array.getElem?_eq_none q] at h2

/-- Where operation i may come up and another one comes up before it. -/
theorem not_after {i : Nat} {oj : Oper} {listed : Array Bool} (hr : i ∈ Region.ready md ops listed) (hw : ∀ e ∈ oj.after, Region.binds md e = true → listed.getD e.on false = true) : ∀ e ∈ oj.after, Region.binds md e = true → e.on ≠ i := by
  intro e he hb hei
  have p1 := hw e he hb
  have p0 := (mem_ready.1 hr).1
  rw [hei] at p1
  rcases Nat.lt_or_ge i listed.size with q | q
  · simp [q] at p0 p1
    rw [p0] at p1
    cases p1
  · simp [Array.getElem?_eq_none q] at p1

/-- What lets operation i be taken first by T: T holds in whatever world, or it is S, and operation M waits for i in a chain. -/
def TakeOk (md : Region.Mode) (ops : Array Oper) (S T : World → Prop) (M i : Nat) (D : List Nat) (listed : Array Bool) : Prop :=
  (∀ w, T w) ∨ ((∀ w, S w → T w) ∧ M ∈ D ∧ chained md ops D i = true ∧ ∀ d, d ∈ D → listed.getD d true = false)
theorem TakeOk.next {T : World → Prop} {i j : Nat} {D : List Nat} {listed : Array Bool} (h : TakeOk md ops S T M i D listed) (hj : j ∈ Region.ready md ops listed) (hne : j ≠ i) : TakeOk md ops S T M i D (listed.setIfInBounds j true) := by
  rcases h with h | ⟨h1, h2, h3, h4⟩
  · exact Or.inl h
  · refine Or.inr ⟨h1, h2, h3, fun d hd => ?_⟩
    have hjd : j ≠ d := fun e => chained_not h3 h4 hj hne (e ▸ hd)
    rw [getD_set_ne true hjd]
    exact h4 d hd
theorem TakeOk.holds {T : World → Prop} {i : Nat} {D : List Nat} {listed : Array Bool} (h : TakeOk md ops S T M i D listed) {w : World} (hS : listed.getD M true = false → S w) : T w := by
  rcases h with h | ⟨h1, h2, _, h4⟩
  · exact h w
  · exact h1 w (hS (h4 M h2))

/-- An operation that may come up now may be taken first, if it yields its value in every world that meets T, and T holds behind whatever may come before it. -/
theorem wpTill.first {i : Nat} {oi : Oper} {v : Value} {T : World → Prop} {D : List Nat} (hi : ops[i]? = some oi) (hM : M ≠ i)
    (hsel : ∀ (j : Nat) (o : Oper) cs b, ops[j]? = some o → o.op ≠ .select cs b)
    (hQ : ∀ c a w, Q (.panic c) (a.put oi.dst v) w → Q (.panic c) a w) :
    ∀ (fuel : Nat) (listed : Array Bool) (a : Act) (w : World),
      (∀ j oj, ops[j]? = some oj → j ≠ i → listed.getD j true = false → (∀ e ∈ oj.after, Region.binds md e = true → e.on ≠ i) → oi.apart ops oj = true) →
      i ∈ Region.ready md ops listed → TakeOk md ops S T M i D listed → YieldsIf P ops T oi v a → (listed.getD M true = false → S w) →
      wpTill P md ops Q S M fuel (listed.setIfInBounds i true) (a.put oi.dst v) w → wpTill P md ops Q S M (fuel + 1) listed a w
  | fuel, listed, a, w, hap, hr, hB, hy, hS, H => by
    refine ⟨fun e => absurd hr (by rw [e]; exact List.not_mem_nil), fun j hj => ?_⟩
    rcases Decidable.em (j = i) with hji | hne
    · subst hji
      refine hy.wpOp hi (hB.holds hS) ⟨fun h => ?_, H⟩
      rw [getD_set_ne true (Ne.symm hM)] at h
      exact hS h
    · obtain ⟨hu, oj, hoj, hw⟩ := mem_ready.1 hj
      have hno := not_after hr hw
      have hrest := ready_mono hj hne
      cases fuel with
      | zero =>
        rw [H.1] at hrest
        cases hrest
      | succ n =>
        have h2 := wpOp_putIf hoj (hap j oj hoj hne hu hno) (fun cs b => hsel i oi cs b hi) (fun cs b => hsel j oj cs b hoj) hQ hy (H.2 j hrest)
        refine wpOp_mono (fun a' w' k => ?_) h2
        obtain ⟨k1, k2, k3⟩ := k
        have hS' : (listed.setIfInBounds j true).getD M true = false → S w' := fun h => k2 (by
          rw [Array.setIfInBounds_comm _ _ (Ne.symm hne), getD_set_ne true (Ne.symm hM)]
          exact h)
        refine ⟨hS', wpTill.first hi hM hsel hQ n (listed.setIfInBounds j true) a' w' (fun k ok hk hki hun hn => ?_) (ready_mono hr (Ne.symm hne)) (hB.next hj hne) k1 hS' (by rw [Array.setIfInBounds_comm _ _ hne]; exact k3)⟩
        refine hap k ok hk hki ?_ hn
        rcases Decidable.em (j = k) with e | e
        · exact e ▸ hu
        · rwa [getD_set_ne true e] at hun

/-- Operation i yields its value in whatever world. -/
theorem till_any {i : Nat} {oi : Oper} {v : Value} {fuel : Nat} {listed : Array Bool} {a : Act} {w : World} (hi : ops[i]? = some oi) (hM : (M == i) = false)
    (hs : Region.noSelect ops = true) (hf : Region.free md ops listed i = true) (hr : (Region.ready md ops listed).contains i = true)
    (hQ : ∀ c a w, Q (.panic c) (a.put oi.dst v) w → Q (.panic c) a w) (hS : S w) (hy : YieldsIf P ops (fun _ => True) oi v a)
    (h : wpTill P md ops Q S M fuel (listed.setIfInBounds i true) (a.put oi.dst v) w) : wpTill P md ops Q S M (fuel + 1) listed a w :=
  wpTill.first (D := []) hi (by simpa using hM) (Region.noSelect_spec hs) hQ fuel listed a w (Region.free_spec hi hf) (by simpa using hr) (Or.inl fun _ => trivial) hy (fun _ => hS) h
/-- Operation i yields its value in every world that meets S, and M waits for it. -/
theorem till_held {i : Nat} {oi : Oper} {v : Value} {fuel : Nat} {listed : Array Bool} {a : Act} {w : World} (D : List Nat) (hi : ops[i]? = some oi) (hM : (M == i) = false)
    (hs : Region.noSelect ops = true) (hf : Region.free md ops listed i = true) (hr : (Region.ready md ops listed).contains i = true)
    (hD : (D.contains M && chained md ops D i && D.all fun d => !(listed.getD d true)) = true)
    (hQ : ∀ c a w, Q (.panic c) (a.put oi.dst v) w → Q (.panic c) a w) (hS : S w) (hy : YieldsIf P ops S oi v a)
    (h : wpTill P md ops Q S M fuel (listed.setIfInBounds i true) (a.put oi.dst v) w) : wpTill P md ops Q S M (fuel + 1) listed a w := by
  rw [Bool.and_eq_true, Bool.and_eq_true] at hD
  refine wpTill.first (D := D) hi (by simpa using hM) (Region.noSelect_spec hs) hQ fuel listed a w (Region.free_spec hi hf) (by simpa using hr) (Or.inr ⟨fun _ h => h, by simpa using hD.1.1, hD.1.2, fun d hd => ?_⟩) hy (fun _ => hS) h
  have := List.all_eq_true.1 hD.2 d hd
  simpa using this
/-- One operation alone may come up. -/
theorem till_one {i : Nat} {o : Oper} {fuel : Nat} {listed : Array Bool} {a : Act} {w : World} (ho : ops[i]? = some o) (hr : Region.ready md ops listed = [i])
    (h : ∀ K' : Act → World → Prop, Shut (∀ a w, ((listed.setIfInBounds i true).getD M true = false → S w) ∧ wpTill P md ops Q S M fuel (listed.setIfInBounds i true) a w → K' a w) → if Region.wanted o (yielded ops a.tmps) = true then Oper.wp P o a w K' Q else K' (a.put o.dst undef) w) :
    wpTill P md ops Q S M (fuel + 1) listed a w := by
  refine ⟨fun e => absurd (hr.symm.trans e) (by simp), fun j hj => ?_⟩
  rw [hr] at hj
  obtain rfl := List.mem_singleton.1 hj
  exact wpOp_step ho h
theorem till_done {fuel : Nat} {listed : Array Bool} {a : Act} {w : World} (hr : Region.ready md ops listed = []) (h : Q .normal a w) : wpTill P md ops Q S M fuel listed a w := by
  cases fuel with
  | zero => exact ⟨hr, h⟩
  | succ n => exact ⟨fun _ => h, fun i hi => by rw [hr] at hi; cases hi⟩
theorem region_till {id : Nat} {a : Act} {w : World} (S : World → Prop) (M : Nat) (hm : P.follows .mixedOrders = true)
    (h : wpTill P .any ops Q S M ops.size (Array.replicate ops.size false) a w.drew) : (Code.region id ops true).wp P Q a w :=
  wp_region_any hm (wpTill.any _ _ _ _ h)
end
end Go.Proofs.YtphbfjcaehiboaaGreatDoor
