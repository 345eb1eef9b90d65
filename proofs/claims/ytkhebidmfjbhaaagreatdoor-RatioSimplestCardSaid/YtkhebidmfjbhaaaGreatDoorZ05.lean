/-
  What natural.write does: it writes the decimal digits.
  What Number.Text returns: the text of an integer.
  What integer.Of, Read, Number.Sign and Number.Negative return.
  What whole.parse and whole.text return.
  How long texts and numbers are.
  What whole.combine returns of texts that are no integers.
  Floored quotients by their remainders.
-/
import Derived.Test.YtkhebidmfjbhaaaGreatDoorZ04
import Derived.Test.YtkhebidmfjbhaaaGreatDoorZ02
import Derived.Test.YtkhebidmfjbhaaaGreatDoorZ03
import Derived.Laws.BytesArg
namespace Go.Proofs.YtkhebidmfjbhaaaGreatDoor
open Go.RowKit

/-- w' is w and new blocks, but for n cells of block g from o on, which hold F 0, F 1 .. -/
structure CellsG (w w' : World) (g o n : Nat) (F : Nat → Value) : Prop where
  os : w'.os = w.os
  tape : w'.tape = w.tape
  output : w'.output = w.output
  size : w.heap.size ≤ w'.heap.size
  block : ∀ k, k < w.heap.size → k ≠ g → w'.heap[k]? = w.heap[k]?
  cells : ∀ j, j < n → w'.cell? ⟨g, o + j, none⟩ = some (F j)
  rest : ∀ i, i < o ∨ o + n ≤ i → w'.cell? ⟨g, i, none⟩ = w.cell? ⟨g, i, none⟩
  frozen : ∀ i, w'.frozen? ⟨g, i, none⟩ = w.frozen? ⟨g, i, none⟩
theorem CellsG.start {w : World} {g o n : Nat} {F : Nat → Value} (h : ∀ j, j < n → w.cell? ⟨g, o + j, none⟩ = some (F j)) : CellsG w w g o n F :=
  ⟨rfl, rfl, rfl, Nat.le_refl _, fun _ _ _ => rfl, h, fun _ _ => rfl, fun _ => rfl⟩
theorem CellsG.cong {w w' : World} {g o n : Nat} {F F' : Nat → Value} (h : CellsG w w' g o n F) (e : ∀ j, j < n → F' j = F j) : CellsG w w' g o n F' :=
  { h with cells := fun j hj => by rw [e j hj]; exact h.cells j hj }
theorem CellsG.set {w w' : World} {g o n : Nat} {F F' : Nat → Value} (h : CellsG w w' g o n F) {i : Nat} (hi : i < n) (t : Value) (e : ∀ j, j < n → F' j = if j = i then t else F j) :
    CellsG w (w'.setCell ⟨g, o + i, none⟩ t) g o n F' where
  os := h.os
  tape := h.tape
  output := h.output
  size := by rw [World.size_setCell]; exact h.size
  block := fun k hk hg => by rw [Below.heap_setCell _ _ _ _ hg]; exact h.block k hk hg
  cells := fun j hj => by
    rw [e j hj]
    by_cases hji : j = i
    · subst hji; rw [if_pos rfl, World.cell?_setCell_same w' _ _ (h.cells j hj)]
    · rw [if_neg hji, World.cell?_setCell_other w' _ _ _ (by intro e; injection e; omega), h.cells j hj]
  rest := fun k hk => by rw [World.cell?_setCell_other w' _ _ _ (by intro e; injection e; omega), h.rest k hk]
  frozen := fun k => by rw [World.frozen?_setCell]; exact h.frozen k
theorem CellsG.below {w w' : World} {g o n : Nat} {F : Nat → Value} {B : Nat} (h : CellsG w w' g o n F) (hB : B ≤ g) (hw : B ≤ w.heap.size) : Below B w w' :=
  ⟨h.os, h.tape, h.output, h.size, fun k hk => h.block k (by omega) (by omega)⟩
theorem CellsG.other {w w' : World} {g o n : Nat} {F : Nat → Value} (h : CellsG w w' g o n F) {b i : Nat} (hw : b < w.heap.size) (hb : b ≠ g) : w'.cell? ⟨b, i, none⟩ = w.cell? ⟨b, i, none⟩ := World.cell?_of_block (w := w) (h.block b hw hb)
theorem CellsG.after {w w1 w' : World} {g o n : Nat} {F : Nat → Value} (h : CellsG w1 w' g o n F) (hb : Below w.heap.size w w1) (hg : g < w.heap.size) : CellsG w w' g o n F :=
  ⟨h.os.trans hb.os, h.tape.trans hb.tape, h.output.trans hb.output, Nat.le_trans hb.size h.size, fun k hk hkg => (h.block k (Nat.lt_of_lt_of_le hk hb.size) hkg).trans (hb.block k hk), h.cells, fun i hi => (h.rest i hi).trans (below_at hb i hg), fun i => (h.frozen i).trans (below_atF hb i hg)⟩

/-- Byte j of the text of x, which has n digits. -/
def db (x : Int) (n j : Nat) : Int := 48 + Ten.lz x (n - 1 - j)
def GivesT (x : Int) (w : World) (g o n : Nat) (e : Ending) (w' : World) : Prop := e = .returned (.tuple #[]) ∧ CellsG w w' g o n (fun j => .int .u8 (db x n j))

theorem elem87 : Tryz.prog.elem 127 = 5 := by kernel_rfl
theorem und87 : Tryz.prog.underlying 127 = some (.slice (Tryz.prog.elem 127)) := by kernel_rfl
theorem size5 (w : World) : (Go.sizeOf 5).run Tryz.prog w = .ok 1 w := Tryz.sizeOf5 w
theorem slice_grp (g o S E n cap : Nat) (h1 : S < E) (h2 : E ≤ cap) (w : World) : (Instr.slice 127 (.slice (some ⟨g, o, none⟩) n cap) (some (.int .i64 (S : Int))) (some (.int .i64 (E : Int))) (some (.int .i64 (E : Int)))).run Tryz.prog w = .ok (.slice (some ⟨g, o + S, none⟩) (E - S) (E - S)) w := by
  rw [run_slice_lhm (ht := und87) (h0 := by omega) (h1 := by omega) (h2 := by omega) (h3 := by omega), elem87, size5]
  simp only [Result.andThen, sliced]
  rw [Int.toNat_natCast, Int.toNat_natCast, if_neg (by omega)]
  simp [Addr.add]

set_option maxHeartbeats 1000000 in
set_option maxRecDepth 100000 in
theorem write_any (u s : Value) (x : Int) (g o n c : Nat) (w : World) (hu : NatV w u s x) (hx : 2 < nl x) (hn : n = dn x) (hc : n ≤ c) (hm : n ≤ 100000) (hg : g < w.heap.size)
    (hu2 : ∀ a m k, s = .slice (some ⟨g, a, none⟩) m k → m = 0) (F : Nat → Value) (ht : ∀ j, j < n → w.cell? ⟨g, o + j, none⟩ = some (F j)) (hf : ∀ j, j < n → w.frozen? ⟨g, o + j, none⟩ = false) :
    Calls Tryz.prog 161 #[.agg #[u, s], .slice (some ⟨g, o, none⟩) n c] w (GivesT x w g o n) := by
  have hx0 := hu.1
  have hdn1 := dn_nl hx0
  have hdn2 := nl_dn hx0
  have hdn3 : n ≤ 9 * nl x := by
    obtain ⟨k, hk⟩ : ∃ k, nl x = k + 1 := ⟨nl x - 1, by omega⟩
    have := dn_split (by omega) hk
    have := ten_nl_limb x k
    omega
  obtain ⟨g', o', m, hm2, hm3, hm4, rfl, rfl, hg', hcx⟩ := hu.large hx
  rw [← hm2] at hdn1 hdn2 hdn3
  rw [← hn] at hdn1 hdn2
  have hgg : g' ≠ g := fun e => by subst e; have := hu2 o' m m rfl; omega
  have HT := Lib.hid ht
  have HF := Lib.hid hf
  have HCX := Lib.hid hcx
  clear hu hm2 hn ht hf hcx hu2 hx
  have hb0 : Below w.heap.size w (w.alloc (.cells #[.int .u64 0, .slice (some ⟨g', o', none⟩) m m] 72)) := (Below.refl _ _).alloc (Nat.le_refl _) _
  obtain ⟨W0, hW0⟩ : ∃ W0, W0 = w.alloc (.cells #[.int .u64 0, .slice (some ⟨g', o', none⟩) m m] 72) := ⟨_, rfl⟩
  rw [← hW0] at hb0
  have z0 : W0.heap.size = w.heap.size + 1 := by rw [hW0]; simp
  have s0 : W0.cell? ⟨w.heap.size, 1, none⟩ = some (.slice (some ⟨g', o', none⟩) m m) := by rw [hW0]; simp
  have B0 := Lib.hid hb0
  have Z0 := Lib.hid z0
  have S0 := Lib.hid s0
  clear hb0 z0 s0
  go_enter Tryz.func161, Tryz.ntmps161
  go_wp2
  rw [← hW0]
  clear hW0
  go_loopw [4, 15] (fun e i wr => ∃ (k : Nat) (f : Nat → Int), k ≤ m ∧ i = .int .i64 k ∧ e = .int .i64 ((n - 9 * k : Nat) : Int) ∧ CellsG W0 wr g o n (fun j => if n - 9 * k ≤ j then .int .u8 (db x n j) else F j)) (fun _ i _ => m - (intOf i).toNat)
  case atStart => exact ⟨0, fun _ => 0, by omega, rfl, rfl, CellsG.start (fun j hj => by rw [if_neg (by omega)]; exact (below_at B0.out _ hg).trans (HT.out j hj))⟩
  case round =>
    obtain ⟨k, f, hk, rfl, rfl, hC⟩ := hrel
    have HC := Lib.hid hC
    clear hC
    have z0 := Z0.out
    by_cases hlt : k < m
    · have hc1 := (HC.out.other (i := o' + k) (by omega) hgg).trans ((below_at B0.out (o' + k) hg').trans (HCX.out k hlt))
      obtain ⟨E, hE⟩ : ∃ E, E = n - 9 * k := ⟨_, rfl⟩
      obtain ⟨S, hS⟩ : ∃ S, S = n - 9 * k - 9 := ⟨_, rfl⟩
      rw [← hE]
      have hES : S < E := by omega
      have hEn : E ≤ n := by omega
      have hE9 : E ≤ S + 9 := by omega
      have hS2 : S = n - 9 * (k + 1) := by omega
      have hmax : max (0 : Int) ((E : Int) - 9) = (S : Int) := by omega
      have hsl := slice_grp g o S E n c hES (by omega)
      have hb1 := lz_bd x k
      have hlz0 : lz x k = lz x k / Ten.bp 0 := by rw [Ten.bp_zero]; omega
      have L0 := Lib.hid hlz0
      have HE := Lib.hid hE
      have HS2 := Lib.hid hS2
      have hcast : ((E - S : Nat) : Int) - 1 = (E : Int) - (S : Int) - 1 := by omega
      have HCA := Lib.hid hcast
      clear hE hS hS2 hlz0 hcast
      obtain ⟨lx, hlx⟩ : ∃ lx, lx = lz x k := ⟨_, rfl⟩
      rw [← hlx] at hc1 hb1 L0
      have HLX := Lib.hid hlx
      clear hlx
      rename World => wo
      go_wp2
      go_loopw [6, 9] (fun l i wr => ∃ s : Nat, s ≤ E - S ∧ i = .int .i64 (((E - S : Nat) : Int) - 1 - (s : Int)) ∧ l = .int .u64 (lx / Ten.bp s) ∧ CellsG W0 wr g o n (fun j => if n - (9 * k + s) ≤ j then .int .u8 (db x n j) else F j)) (fun _ i _ => (intOf i + 1).toNat)
      case atStart => exact ⟨0, by omega, by go_num, by rw [← L0.out], HC.out⟩
      case round =>
        obtain ⟨s, hs, rfl, rfl, hC2⟩ := hrel
        have C2 := Lib.hid hC2
        clear hC2
        have p0 := Int.ediv_nonneg hb1.1 (Int.le_of_lt (Ten.bp_pos s))
        have p1 := Int.ediv_le_self (Ten.bp s) hb1.1
        by_cases hsl2 : s < E - S
        · obtain ⟨r, hr⟩ : ∃ r, r = E - S - 1 - s := ⟨_, rfl⟩
          rw [show (((E - S : Nat) : Int) - 1 - (s : Int)) = (r : Int) by omega]
          have hrr : r < E - S := by omega
          have hpos : S + r = n - (9 * k + s) - 1 := by have := HE.out; omega
          have hSr : S + r < n := by omega
          have hSr2 : ¬ n - (9 * k + s) ≤ S + r := by have := HE.out; omega
          have c1 := C2.out.cells (S + r) hSr
          rw [if_neg hSr2, ← Nat.add_assoc] at c1
          have c2 := (C2.out.frozen (o + (S + r))).trans ((below_atF B0.out _ hg).trans (HF.out (S + r) hSr))
          rw [← Nat.add_assoc] at c2
          have hdg : (lx / Ten.bp s) % 10 = Ten.lz x (9 * k + s) := by rw [HLX.out]; exact lz_digit x k s (by omega)
          have hdiv : lx / Ten.bp s / 10 = lx / Ten.bp (s + 1) := (Ten.div_succ lx s).symm
          have hset : CellsG W0 (wr.setCell ⟨g, o + S + r, none⟩ (.int .u8 (48 + (lx / Ten.bp s) % 10))) g o n (fun j => if n - (9 * k + (s + 1)) ≤ j then .int .u8 (db x n j) else F j) := by
            have := C2.out.set (i := S + r) hSr (.int .u8 (48 + (lx / Ten.bp s) % 10)) (F' := fun j => if n - (9 * k + (s + 1)) ≤ j then .int .u8 (db x n j) else F j) (fun j hj => by
              by_cases e : j = S + r
              · subst e
                rw [if_pos (by have := HE.out; omega), if_pos rfl, hdg]
                unfold db
                rw [show n - 1 - (S + r) = 9 * k + s by have := HE.out; omega]
              · rw [if_neg e]
                by_cases h2 : n - (9 * k + s) ≤ j
                · rw [if_pos h2, if_pos (by omega)]
                · rw [if_neg h2, if_neg (by have := HE.out; omega)])
            rwa [← Nat.add_assoc] at this
          have SET := Lib.hid hset
          have DIV := Lib.hid hdiv
          have HR := Lib.hid hr
          clear hdg hdiv hset hpos hr
          generalize lx / Ten.bp s = lv at *
          go_wp2
          go_roundw
          case rel => exact ⟨s + 1, by have := HR.out; omega, by have := HR.out; congr 1; omega, by rw [← DIV.out], SET.out⟩
          case measure => have := HR.out; simp [intOf]
        · obtain rfl : s = E - S := by omega
          have hEk : n - (9 * k + (E - S)) = n - 9 * (k + 1) := by have := HE.out; have := HS2.out; omega
          have hC3 : CellsG W0 wr g o n (fun j => if n - 9 * (k + 1) ≤ j then .int .u8 (db x n j) else F j) := by have := C2.out; rwa [hEk] at this
          have C3 := Lib.hid hC3
          clear hC3 hEk
          go_wp2
          go_roundw
          case rel => exact ⟨k + 1, f, by omega, by go_num, by rw [HS2.out], C3.out⟩
          case measure => simp [intOf]; omega
    · obtain rfl : k = m := by omega
      have hfin : CellsG W0 wr g o n (fun j => .int .u8 (db x n j)) := HC.out.cong (fun j hj => by rw [if_pos (by omega)])
      have FIN := Lib.hid (hfin.after B0.out hg)
      clear hfin
      go_wp2
      go_end0
      exact ⟨rfl, FIN.out⟩
end Go.Proofs.YtkhebidmfjbhaaaGreatDoor
namespace Go.Proofs.YtkhebidmfjbhaaaGreatDoor
open Go.RowKit

theorem infoU8 : (Tryz.prog.info? 5).map (fun i => (i.zero, i.size, i.bytes)) = some (some (.int .u8 0), 1, 1) := by kernel_rfl
theorem undU8s : Tryz.prog.underlying 127 = some (.slice 5) := by kernel_rfl
theorem undU8 : Tryz.prog.underlying 5 = some (.int .u8) := by kernel_rfl
theorem undStr : Tryz.prog.underlying 9 = some .string := by kernel_rfl
theorem mk_u8 (n : Nat) (hn : n ≤ 1000000) (w : World) : (Instr.makeSlice 127 (.int .i64 (n : Int)) (.int .i64 (n : Int))).run Tryz.prog w = .ok (.slice (some ⟨w.heap.size, 0, none⟩) n n) (w.alloc (.cells (madeCells #[.int .u8 0] n) 5)) :=
  run_make_row' _ _ (.int .u8 0) 1 undU8s infoU8 rfl .i64 .i64 n (by omega) (by omega) w

theorem made8_get (n j : Nat) (h : j < n) : (madeCells #[Value.int .u8 0] n)[j]? = some (.int .u8 0) := by
  unfold madeCells
  simp [h, Nat.mod_one]
theorem slice_one (g n : Nat) (w : World) : (Instr.slice 127 (.slice (some ⟨g, 0, none⟩) (n + 1) (n + 1)) (some (.int .i64 1)) none none).run Tryz.prog w = .ok (if n = 0 then .slice (some ⟨g, 0, none⟩) 0 0 else .slice (some ⟨g, 1, none⟩) n n) w := by
  rw [run_slice_l (ht := und87) (h0 := by omega) (h1 := by omega), elem87, size5]
  simp only [Result.andThen, sliced]
  by_cases h : n = 0
  · subst h; simp
  · rw [if_neg (by simp; omega), if_neg h]
    simp [Addr.add]
/-- The bytes that are written are the text. -/
theorem db_list (z : Int) : (List.range (dn z)).map (fun j => UInt8.ofNat (db z.natAbs (dn z) j).toNat) = Lib.decDigits z.natAbs := by
  rw [Lib.decDigits_eq]
  unfold dn
  refine List.map_congr_left fun j _ => ?_
  unfold db Lib.dg
  congr 1
theorem str_digits (z : Int) : strOfNums ((List.range (dn z)).map (fun j => db z.natAbs (dn z) j)) = td z.natAbs := by
  unfold strOfNums td
  rw [List.map_map, ← db_list]
  rfl
theorem str_signed {z : Int} (hz : z < 0) : strOfNums (45 :: (List.range (dn z)).map (fun j => db z.natAbs (dn z) j)) = tx z := by
  unfold strOfNums tx Lib.itoa
  rw [if_pos hz, List.map_cons, List.map_map, ← db_list]
  rfl
/-- The conversions of the whole row and of what stands behind its first byte. -/
theorem conv_tail (g : Nat) (z : Int) (c : Nat) (w : World) (h : ∀ j, j < dn z → w.cell? ⟨g, 1 + j, none⟩ = some (.int .u8 (db z.natAbs (dn z) j))) :
    (convert 127 9 (.slice (some ⟨g, 1, none⟩) (dn z) c)).run Tryz.prog w = .ok (.string (td z.natAbs)) w := by
  rw [run_convert_bytes_arg w 127 5 undU8s undU8 g 1 (dn z) c ((List.range (dn z)).map (fun j => db z.natAbs (dn z) j)) (by simp) (fun j hj => by rw [h j hj]; simp [List.getD, hj]) _ undStr, str_digits]
theorem conv_all (g : Nat) (z : Int) (hz : z < 0) (c : Nat) (w : World) (h0 : w.cell? ⟨g, 0, none⟩ = some (.int .u8 45)) (h : ∀ j, j < dn z → w.cell? ⟨g, 1 + j, none⟩ = some (.int .u8 (db z.natAbs (dn z) j))) :
    (convert 127 9 (.slice (some ⟨g, 0, none⟩) (dn z + 1) c)).run Tryz.prog w = .ok (.string (tx z)) w := by
  rw [run_convert_bytes_arg w 127 5 undU8s undU8 g 0 (dn z + 1) c (45 :: (List.range (dn z)).map (fun j => db z.natAbs (dn z) j)) (by simp) (fun j hj => by
    cases j with
    | zero => exact h0
    | succ j => rw [Nat.zero_add, Nat.add_comm j 1, h j (by omega), Nat.add_comm 1 j]; simp [List.getD, show j < dn z by omega]) _ undStr, str_signed hz]


set_option maxHeartbeats 1000000 in
theorem Text_rows (u v : Value) (z : Int) (b : Bool) (w : World) (hv : NatV w u v z.natAbs) (hb : b = decide (z < 0)) (h2 : 2 < nl z.natAbs) (hd : dn z ≤ 100000) :
    Calls Tryz.prog 123 #[.agg #[u, v, .bool b]] w (GivesY (tx z) w) := by
  have HV := Lib.hid hv
  have WX := Lib.hid (fun W (hb : Below w.heap.size w W) => isWord_no _ _ _ W (hv.below hb) h2)
  have HDG : Hid (∀ W (hb : Below w.heap.size w W), Calls Tryz.prog 151 #[.agg #[u, v]] W (GivesI (dn z) W)) := fun W hb => by have := digits_any _ _ _ W (hv.below hb); rwa [dn_abs] at this
  have HL := Lib.hid h2
  obtain ⟨a, o0, m, hm2, hm3, hm4, rfl, rfl, ha, hcx0⟩ := hv.large h2
  obtain ⟨W0, hW0⟩ : ∃ W0, W0 = w.alloc (.cells #[.int .u64 0, .slice (some ⟨a, o0, none⟩) m m, .bool b] 74) := ⟨_, rfl⟩
  have hb0 : Below w.heap.size w W0 := by rw [hW0]; exact (Below.refl _ _).alloc (Nat.le_refl _) _
  have z0 : W0.heap.size = w.heap.size + 1 := by rw [hW0]; simp
  have e0 : W0.cell? ⟨w.heap.size, 0, none⟩ = some (.int .u64 0) := by rw [hW0]; simp
  have e1 : W0.cell? ⟨w.heap.size, 1, none⟩ = some (.slice (some ⟨a, o0, none⟩) m m) := by rw [hW0]; simp
  have e2 : W0.cell? ⟨w.heap.size, 2, none⟩ = some (.bool b) := by rw [hW0]; simp
  have B0 := Lib.hid hb0
  obtain ⟨N, hN⟩ : ∃ N, N = dn z := ⟨_, rfl⟩
  have hmk := mk_u8 (N + 1) (by omega)
  rw [show ((N + 1 : Nat) : Int) = (N : Int) + 1 by omega] at hmk
  rw [← hN] at HDG hd
  have hdp := dn_pos z
  rw [← hN] at hdp
  have HN := Lib.hid hN
  have HB := Lib.hid hb
  have HMK := Lib.hid hmk
  clear hv hm2 hcx0 hb hb0 hN hmk h2
  go_enter Tryz.func123, Tryz.ntmps123
  go_wp2_with fail
  rw [← hW0]
  clear hW0
  refine (WX.out _ B0.out).mono ?_
  rintro e w9 ⟨rfl, rfl⟩
  have hal := alloc_below W0 (.cells #[.int .u64 0, .slice (some ⟨a, o0, none⟩) m m] 72)
  replace B0 := Lib.hid (B0.out.trans (hal.mono (by omega)))
  replace e0 := (below_at hal 0 (by omega)).trans e0
  replace e1 := (below_at hal 1 (by omega)).trans e1
  replace e2 := (below_at hal 2 (by omega)).trans e2
  replace z0 : w.heap.size < (W0.alloc (.cells #[.int .u64 0, .slice (some ⟨a, o0, none⟩) m m] 72)).heap.size := by simp; omega
  clear hal
  generalize W0.alloc (.cells #[.int .u64 0, .slice (some ⟨a, o0, none⟩) m m] 72) = W0' at *
  go_wp2_with fail
  refine (HDG.out _ B0.out).mono ?_
  rintro e w1 ⟨rfl, hb1⟩
  have hs1 := hb1.size
  have B1 := Lib.hid (B0.out.trans (hb1.mono (by omega)))
  have p0 := (below_at hb1 0 z0).trans e0
  have p1 := (below_at hb1 1 z0).trans e1
  have p2 := (below_at hb1 2 z0).trans e2
  clear hb1 e0 e1 e2 B0 HDG WX
  have hm0 := made8_get (N + 1) 0 (by omega)
  have hsl := slice_one w1.heap.size N
  have hN0 : ¬ N = 0 := by omega
  simp only [if_neg hN0] at hsl
  have hmk := HMK.out
  clear hN0 HMK
  go_wp2_with fail
  clear hmk
  obtain ⟨A, hA⟩ : ∃ A, A = (madeCells #[Value.int .u8 0] (N + 1)).setIfInBounds 0 (Value.int .u8 45) := ⟨_, rfl⟩
  rw [← hA]
  have a0 : A[0]? = some (.int .u8 45) := by rw [hA]; simp [size_madeCells]
  have a1 : ∀ j, j < N → A[1 + j]? = some (.int .u8 0) := fun j hj => by
    rw [hA, Array.getElem?_setIfInBounds, if_neg (by omega)]; exact made8_get _ _ (by omega)
  obtain ⟨W2, hW2⟩ : ∃ W2, W2 = w1.alloc (.cells A 5) := ⟨_, rfl⟩
  rw [← hW2]
  have b2 : Below w1.heap.size w1 W2 := by rw [hW2]; exact (Below.refl _ _).alloc (Nat.le_refl _) _
  have z2 : W2.heap.size = w1.heap.size + 1 := by rw [hW2]; simp
  have c0 : W2.cell? ⟨w1.heap.size, 0, none⟩ = some (.int .u8 45) := by rw [hW2, World.cell?_alloc_new]; exact a0
  have c1 : ∀ j, j < N → W2.cell? ⟨w1.heap.size, 1 + j, none⟩ = some (.int .u8 0) := fun j hj => by rw [hW2, World.cell?_alloc_new]; exact a1 j hj
  have c2 : ∀ j, W2.frozen? ⟨w1.heap.size, j, none⟩ = false := fun j => by rw [hW2, World.frozen?_alloc_new]
  have q0 := (below_at b2 0 (show w.heap.size < w1.heap.size by omega)).trans p0
  have q1 := (below_at b2 1 (show w.heap.size < w1.heap.size by omega)).trans p1
  have q2 := (below_at b2 2 (show w.heap.size < w1.heap.size by omega)).trans p2
  have hnv : NatV W2 (.int .u64 0) (.slice (some ⟨a, o0, none⟩) m m) z.natAbs := HV.out.below (B1.out.trans (b2.mono (by omega)))
  have hnb : ∀ o' m' k', (Value.slice (some ⟨a, o0, none⟩) m m) = .slice (some ⟨w1.heap.size, o', none⟩) m' k' → m' = 0 := by
    intro o' m' k' e
    injection e with e1 e2 e3
    injection e1 with e1
    injection e1 with e1
    omega
  have NV := Lib.hid hnv
  have NB := Lib.hid hnb
  have B2 := Lib.hid (B1.out.trans (b2.mono (show w.heap.size ≤ w1.heap.size by omega)))
  have C1 := Lib.hid c1
  have C2 := Lib.hid c2
  have C0 := Lib.hid c0
  have HNa : Hid (N = dn (z.natAbs : Int)) := by show _ = _; rw [dn_abs]; exact HN.out
  clear hA a0 a1 hW2 b2 c0 c1 c2 hnv hnb hm0 p0 p1 p2
  go_region_with (go_at_call 161; refine (write_any _ _ z.natAbs w1.heap.size 1 N N _ (by exact NV.out) HL.out HNa.out (by omega) (by omega) (by exact z2 ▸ Nat.lt_succ_self _) NB.out (fun _ => .int .u8 0) (by exact C1.out) (by exact fun j _ => C2.out (1 + j))).mono ?_; rintro e w5 ⟨rfl, hC⟩; have C5 := Lib.hid hC; clear hC)
  all_goals
    have t1 : w5.cell? ⟨w.heap.size, 2, none⟩ = some (.bool b) := (C5.out.other (b := w.heap.size) (i := 2) (by show _ < W2.heap.size; omega) (by omega)).trans q2
    have t2 : w5.cell? ⟨w1.heap.size, 0, none⟩ = some (.int .u8 45) := (C5.out.rest 0 (.inl (by omega))).trans C0.out
    have hbe : Below w1.heap.size W2.drew w5 := C5.out.below (Nat.le_refl _) (by show _ ≤ W2.heap.size; omega)
    have B5 := Lib.hid ((B2.out.drew).trans (hbe.mono (show w.heap.size ≤ w1.heap.size by omega)))
    have hcl := C5.out.cells
    rw [HN.out] at hcl
    clear hbe q0 q1 q2 hsl
    by_cases hz : z < 0
    · have hcv := conv_all w1.heap.size z hz (N + 1) w5 t2 hcl
      rw [← HN.out] at hcv
      have hbt : b = true := by rw [HB.out]; exact decide_eq_true hz
      subst hbt
      clear t2 hcl hz
      go_wp2
      go_ret
      exact ⟨rfl, B5.out⟩
    · have hcv := conv_tail w1.heap.size z N w5 hcl
      rw [← HN.out, ← tx_pos (by omega)] at hcv
      have hbt : b = false := by rw [HB.out]; exact decide_eq_false hz
      have hsl := slice_one w1.heap.size N
      simp only [if_neg (show ¬ N = 0 by omega)] at hsl
      subst hbt
      clear t2 hcl hz
      go_wp2
      go_ret
      exact ⟨rfl, B5.out⟩
theorem Text_word (u v : Value) (z : Int) (b : Bool) (w : World) (tb : Tb w) (hv : NatV w u v z.natAbs) (hb : b = decide (z < 0)) (h2 : nl z.natAbs ≤ 2) :
    Calls Tryz.prog 123 #[.agg #[u, v, .bool b]] w (GivesY (tx z) w) := by
  have hx1 := (nl_word hv.1).1 h2
  have WX := Lib.hid (fun W (hb : Below w.heap.size w W) => isWord_yes _ _ _ W (hv.below hb) h2)
  obtain ⟨rfl, rfl⟩ := hv.small h2
  obtain ⟨x, hx⟩ : ∃ x : Int, x = z.natAbs := ⟨_, rfl⟩
  rw [← hx] at hx1 WX ⊢
  have hx0 : 0 ≤ x := by omega
  have TB := Lib.hid tb
  have FI := Lib.hid (fun W => Tryz.strconv_FormatInt_10 z (by omega) (by omega) W)
  clear hv h2 tb
  by_cases hz : z < 0
  · obtain rfl : b = true := by rw [hb]; exact decide_eq_true hz
    obtain rfl : z = -x := by omega
    clear hx hb hz
    go_enter Tryz.func123, Tryz.ntmps123
    go_wp2_with fail
    refine (WX.out _ ((Below.refl _ _).alloc (Nat.le_refl _) _)).mono ?_
    rintro e w9 ⟨rfl, rfl⟩
    go_wp2_with fail
    refine (FI.out _ (TB.out.below (((Below.refl _ _).alloc (Nat.le_refl _) _).alloc (by simp) _)).here).mono ?_
    rintro e w' ⟨rfl, k, os, rfl⟩
    go_wp2
    go_ret
    exact ⟨rfl, (((Below.refl _ _).alloc (Nat.le_refl _) _).alloc (by simp) _).trans (Lib.below_grow _ _ (by simp; omega) _ _)⟩
  · obtain rfl : b = false := by rw [hb]; exact decide_eq_false hz
    obtain rfl : z = x := by omega
    clear hx hb hz
    go_enter Tryz.func123, Tryz.ntmps123
    go_wp2_with fail
    refine (WX.out _ ((Below.refl _ _).alloc (Nat.le_refl _) _)).mono ?_
    rintro e w9 ⟨rfl, rfl⟩
    go_wp2_with fail
    refine (FI.out _ (TB.out.below (((Below.refl _ _).alloc (Nat.le_refl _) _).alloc (by simp) _)).here).mono ?_
    rintro e w' ⟨rfl, k, os, rfl⟩
    go_wp2
    go_ret
    exact ⟨rfl, (((Below.refl _ _).alloc (Nat.le_refl _) _).alloc (by simp) _).trans (Lib.below_grow _ _ (by simp; omega) _ _)⟩
theorem Text_any (u v : Value) (z : Int) (b : Bool) (w : World) (tb : Tb w) (hv : NatV w u v z.natAbs) (hb : b = decide (z < 0)) (hd : dn z ≤ 100000) :
    Calls Tryz.prog 123 #[.agg #[u, v, .bool b]] w (GivesY (tx z) w) := by
  rcases Nat.lt_or_ge 2 (nl z.natAbs) with h | h
  · exact Text_rows u v z b w hv hb h hd
  · exact Text_word u v z b w tb hv hb h
end Go.Proofs.YtkhebidmfjbhaaaGreatDoor
namespace Go.Proofs.YtkhebidmfjbhaaaGreatDoor
open Go.RowKit

theorem sgn_pick (z : Int) (b : Bool) (hb : b = decide (z < 0)) : (if b = true then -(z.natAbs : Int) else (z.natAbs : Int)) = z := by
  subst hb
  by_cases h : z < 0
  · rw [if_pos (decide_eq_true h)]; omega
  · rw [if_neg (by simpa using h)]; omega
set_option maxHeartbeats 800000 in
theorem Of_neg (z : Int) (w : World) (h0 : -9223372036854775808 ≤ z) (h1 : z < 0) :
    Calls Tryz.prog 139 #[.int .i64 z] w (GivesZ z w) := by
  have S0 := Lib.hid (Res.new w 74 w.heap.size rfl)
  have B0 := Lib.hid (alloc_below w (.cells #[.int .u64 0, .slice none 0 0, .bool false] 74))
  obtain ⟨x, hx⟩ : ∃ x : Int, x = -z := ⟨_, rfl⟩
  obtain rfl : z = -x := by omega
  have hw1 : IntKind.u64.wrap (-x) = 18446744073709551616 - x := by rw [IntKind.wrap_u64]; omega
  have hw2 : IntKind.u64.wrap (-(18446744073709551616 - x)) = x := by rw [IntKind.wrap_u64]; omega
  clear hx
  go_enter Tryz.func139, Tryz.ntmps139
  go_wp2_with fail
  refine (nof_any x _ (by omega) (by omega)).mono ?_
  rintro e w1 ⟨p1, v1, rfl, hv1, hb1⟩
  have B1 := Lib.hid (B0.out.trans (hb1.mono (by simp)))
  have S1 := Lib.hid (S0.out.below hb1 (by simp))
  have hs1 := hb1.size
  simp only [World.size_alloc] at hs1
  clear hw1 hw2 hb1
  go_wp2_with fail
  refine (signed_true p1 v1 x w1 hv1).mono ?_
  rintro e w2 ⟨p2, v2, rfl, hv2, hb2⟩
  have B2 := Lib.hid (B1.out.trans (hb2.mono (by omega)))
  have S2 := Lib.hid (S1.out.below hb2 (by omega))
  have HV2 := Lib.hid hv2
  obtain ⟨t9, a9, n9, rfl, rfl, ht9, hn9, _, _, _, _⟩ := hv2.form
  have HT9 := Lib.hid ht9
  have HN9 := Lib.hid hn9
  obtain ⟨s2, hs2⟩ : ∃ s2, s2 = decide (-x < 0) := ⟨_, rfl⟩
  rw [← hs2]
  have HS2 := Lib.hid hs2
  clear hv1 hv2 hb2 ht9 hn9 hs2
  obtain ⟨r0, r1, r2, r3, r4, r5⟩ := S2.out
  go_wp2
  exact bodyPost_ret (v := .agg #[.int .u64 t9, .slice a9 n9 n9, .bool s2]) (by simp [results, Tryz.results139, go_sem, r0, r1, r2]) rfl (giveZ B2.out (Nat.le_refl _) S2.out HV2.out HS2.out)

theorem Of_pos (z : Int) (w : World) (h0 : 0 ≤ z) (h1 : z ≤ 9223372036854775807) :
    Calls Tryz.prog 139 #[.int .i64 z] w (GivesZ z w) := by
  have S0 := Lib.hid (Res.new w 74 w.heap.size rfl)
  have B0 := Lib.hid (alloc_below w (.cells #[.int .u64 0, .slice none 0 0, .bool false] 74))
  go_enter Tryz.func139, Tryz.ntmps139
  go_wp2_with fail
  refine (nof_any z _ (by omega) (by omega)).mono ?_
  rintro e w1 ⟨p1, v1, rfl, hv1, hb1⟩
  have B1 := Lib.hid (B0.out.trans (hb1.mono (by simp)))
  have S1 := Lib.hid (S0.out.below hb1 (by simp))
  have hs1 := hb1.size
  simp only [World.size_alloc] at hs1
  clear hb1
  go_wp2_with fail
  refine (signed_false p1 v1 z w1 hv1).mono ?_
  rintro e w2 ⟨p2, v2, rfl, hv2, hb2⟩
  have B2 := Lib.hid (B1.out.trans (hb2.mono (by omega)))
  have S2 := Lib.hid (S1.out.below hb2 (by omega))
  have HV2 := Lib.hid hv2
  obtain ⟨t9, a9, n9, rfl, rfl, ht9, hn9, _, _, _, _⟩ := hv2.form
  have HT9 := Lib.hid ht9
  have HN9 := Lib.hid hn9
  obtain ⟨s2, hs2⟩ : ∃ s2, s2 = decide (z < 0) := ⟨_, rfl⟩
  rw [← hs2]
  have HS2 := Lib.hid hs2
  clear hv2 hb2 ht9 hn9 hs2
  obtain ⟨r0, r1, r2, r3, r4, r5⟩ := S2.out
  go_wp2
  exact bodyPost_ret (v := .agg #[.int .u64 t9, .slice a9 n9 n9, .bool s2]) (by simp [results, Tryz.results139, go_sem, r0, r1, r2]) rfl (giveZ B2.out (Nat.le_refl _) S2.out HV2.out HS2.out)
theorem OfZ_any (z : Int) (w : World) (h0 : -9223372036854775808 ≤ z) (h1 : z ≤ 9223372036854775807) :
    Calls Tryz.prog 139 #[.int .i64 z] w (GivesZ z w) := by
  rcases Int.lt_or_le z 0 with h | h
  · exact Of_neg z w h0 h
  · exact Of_pos z w h h1

/-- z is n, or, behind a minus sign, its negative. -/
def pm (b : Bool) (n : Nat) : Int := if b = true then -(n : Int) else n
theorem Read_word (D : ByteArray) (n : Nat) (b : Bool) (w : World) (hD : Digs D n) (h18 : D.size ≤ 18) :
    Calls Tryz.prog 154 #[.string D, .bool b] w (GivesZ (pm b n) w) := by
  have S0 := Lib.hid (Res.new w 74 w.heap.size rfl)
  have B0 := Lib.hid (alloc_below w (.cells #[.int .u64 0, .slice none 0 0, .bool false] 74))
  have hlt := hD.lt
  have hm := Ten.bp_mono h18
  rw [show Ten.bp 18 = 1000000000000000000 from by unfold Ten.bp; decide] at hm
  have WD := Lib.hid (fun W => word_any D n W hD h18)
  have hn2 : nl n ≤ 2 := (nl_word (by omega)).2 (by omega)
  obtain ⟨N, hN⟩ : ∃ N : Int, N = n := ⟨_, rfl⟩
  have hpm : (if b = true then -N else N) = pm b n := by unfold pm; rw [hN]
  rw [← hN] at WD hn2
  have HPM := Lib.hid hpm
  have hN0 : 0 ≤ N := by omega
  obtain ⟨Z, hZ⟩ : ∃ Z, Z = pm b n := ⟨_, rfl⟩
  rw [← hZ] at HPM ⊢
  clear hD hlt hm hN hpm hZ
  go_enter Tryz.func154, Tryz.ntmps154
  go_wp2_with fail
  refine (WD.out _).mono ?_
  rintro e w' ⟨rfl, rfl⟩
  go_wp2_with fail
  refine (signed_any (.int .u64 N) (.slice none 0 0) b N _ (NatV.word hN0 hn2)).mono ?_
  rw [HPM.out]
  rintro e w2 ⟨p2, v2, rfl, hv2, hb2⟩
  have B1 := B0
  have S1 := S0
  have hs1 : w.heap.size < (w.alloc (.cells #[.int .u64 0, .slice none 0 0, .bool false] 74)).heap.size := by simp
  have hs2 : w.heap.size ≤ (w.alloc (.cells #[.int .u64 0, .slice none 0 0, .bool false] 74)).heap.size := by simp
  have B2 := Lib.hid (B1.out.trans (hb2.mono (by first | exact hs1 | exact hs2)))
  have S2 := Lib.hid (S1.out.below hb2 (by first | exact hs1 | exact hs2))
  have HV2 := Lib.hid hv2
  obtain ⟨t9, a9, n9, rfl, rfl, ht9, hn9, _, _, _, _⟩ := hv2.form
  have HT9 := Lib.hid ht9
  have HN9 := Lib.hid hn9
  obtain ⟨s2, hs2⟩ : ∃ s2, s2 = decide (Z < 0) := ⟨_, rfl⟩
  rw [← hs2]
  have HS2 := Lib.hid hs2
  clear hv2 hb2 ht9 hn9 hs2
  obtain ⟨r0, r1, r2, r3, r4, r5⟩ := S2.out
  go_wp2
  exact bodyPost_ret (v := .agg #[.int .u64 t9, .slice a9 n9 n9, .bool s2]) (by simp [results, Tryz.results154, go_sem, r0, r1, r2]) rfl (giveZ B2.out (Nat.le_refl _) S2.out HV2.out HS2.out)
theorem Read_long (D : ByteArray) (n : Nat) (b : Bool) (w : World) (hD : Digs D n) (h18 : 18 < D.size) (h5 : D.size ≤ 5000) :
    Calls Tryz.prog 154 #[.string D, .bool b] w (GivesZ (pm b n) w) := by
  have S0 := Lib.hid (Res.new w 74 w.heap.size rfl)
  have B0 := Lib.hid (alloc_below w (.cells #[.int .u64 0, .slice none 0 0, .bool false] 74))
  have CO := Lib.hid (fun W => collect_any D n W hD h5 (by omega))
  have hpm : (if b = true then -(n : Int) else (n : Int)) = pm b n := rfl
  have HPM := Lib.hid hpm
  obtain ⟨Z, hZ⟩ : ∃ Z, Z = pm b n := ⟨_, rfl⟩
  rw [← hZ] at HPM ⊢
  clear hD hpm hZ
  go_enter Tryz.func154, Tryz.ntmps154
  go_wp2_with fail
  refine (CO.out _).mono ?_
  rintro e w1 ⟨p1, v1, rfl, hv1, hb1⟩
  have B1 := Lib.hid (B0.out.trans (hb1.mono (by simp)))
  have S1 := Lib.hid (S0.out.below hb1 (by simp))
  have hs1 := hb1.size
  simp only [World.size_alloc] at hs1
  clear hb1
  go_wp2_with fail
  refine (signed_any p1 v1 b n w1 hv1).mono ?_
  rw [HPM.out]
  rintro e w2 ⟨p2, v2, rfl, hv2, hb2⟩
  have B2 := Lib.hid (B1.out.trans (hb2.mono (by omega)))
  have S2 := Lib.hid (S1.out.below hb2 (by omega))
  have HV2 := Lib.hid hv2
  obtain ⟨t9, a9, n9, rfl, rfl, ht9, hn9, _, _, _, _⟩ := hv2.form
  have HT9 := Lib.hid ht9
  have HN9 := Lib.hid hn9
  obtain ⟨s2, hs2⟩ : ∃ s2, s2 = decide (Z < 0) := ⟨_, rfl⟩
  rw [← hs2]
  have HS2 := Lib.hid hs2
  clear hv2 hb2 ht9 hn9 hs2
  obtain ⟨r0, r1, r2, r3, r4, r5⟩ := S2.out
  go_wp2
  exact bodyPost_ret (v := .agg #[.int .u64 t9, .slice a9 n9 n9, .bool s2]) (by simp [results, Tryz.results154, go_sem, r0, r1, r2]) rfl (giveZ B2.out (Nat.le_refl _) S2.out HV2.out HS2.out)
theorem Read_any (D : ByteArray) (n : Nat) (b : Bool) (w : World) (hD : Digs D n) (h5 : D.size ≤ 5000) :
    Calls Tryz.prog 154 #[.string D, .bool b] w (GivesZ (pm b n) w) := by
  rcases Nat.lt_or_ge 18 D.size with h | h
  · exact Read_long D n b w hD h h5
  · exact Read_word D n b w hD h
theorem Read_td (z : Int) (w : World) (hz : dn z ≤ 5000) :
    Calls Tryz.prog 154 #[.string (td z.natAbs), .bool (decide (z < 0))] w (GivesZ z w) := by
  have h := Read_any (td z.natAbs) z.natAbs (decide (z < 0)) w (Digs.td _) (by rw [td_size]; exact hz)
  rwa [show pm (decide (z < 0)) z.natAbs = z from sgn_pick z _ rfl] at h

/-! ### the sign -/
theorem SignN_neg (p v : Value) (z : Int) (w : World) (hv : NatV w p v z.natAbs) :
    Calls Tryz.prog 119 #[.agg #[p, v, .bool true]] w (GivesI (-1) w) := by
  obtain ⟨t, a, n, rfl, rfl, -, -, -, -, -, -⟩ := hv.form
  clear hv
  go_enter Tryz.func119, Tryz.ntmps119
  go_wp2
  go_ret
  exact ⟨rfl, (Below.refl _ _).alloc (Nat.le_refl _) _⟩
theorem SignN_zero (p v : Value) (w : World) (hv : NatV w p v 0) :
    Calls Tryz.prog 119 #[.agg #[p, v, .bool false]] w (GivesI 0 w) := by
  have HZ := Lib.hid (fun W (hb : Below w.heap.size w W) => isZero_true _ _ W (hv.below hb))
  obtain ⟨t, a, n, rfl, rfl, -, -, -, -, -, -⟩ := hv.form
  clear hv
  go_enter Tryz.func119, Tryz.ntmps119
  go_wp2_with fail
  refine (HZ.out _ ((Below.refl _ _).alloc (Nat.le_refl _) _)).mono ?_
  rintro e w' ⟨rfl, rfl⟩
  go_wp2
  go_ret
  exact ⟨rfl, (((Below.refl _ _).alloc (Nat.le_refl _) _).alloc (by simp) _).alloc (by simp; omega) _⟩
theorem SignN_pos (p v : Value) (z : Int) (w : World) (hv : NatV w p v z) (hz : 0 < z) :
    Calls Tryz.prog 119 #[.agg #[p, v, .bool false]] w (GivesI 1 w) := by
  have HZ := Lib.hid (fun W (hb : Below w.heap.size w W) => isZero_false _ _ _ W (hv.below hb) (by omega))
  obtain ⟨t, a, n, rfl, rfl, -, -, -, -, -, -⟩ := hv.form
  clear hv
  go_enter Tryz.func119, Tryz.ntmps119
  go_wp2_with fail
  refine (HZ.out _ ((Below.refl _ _).alloc (Nat.le_refl _) _)).mono ?_
  rintro e w' ⟨rfl, rfl⟩
  go_wp2
  go_ret
  exact ⟨rfl, (((Below.refl _ _).alloc (Nat.le_refl _) _).alloc (by simp) _).alloc (by simp; omega) _⟩
/-- The sign of z. -/
def sg (z : Int) : Int := if z < 0 then -1 else if z = 0 then 0 else 1
theorem SignN_any (p v : Value) (z : Int) (b : Bool) (w : World) (hv : NatV w p v z.natAbs) (hb : b = decide (z < 0)) :
    Calls Tryz.prog 119 #[.agg #[p, v, .bool b]] w (GivesI (sg z) w) := by
  rcases Int.lt_trichotomy z 0 with h | h | h
  · rw [hb, decide_eq_true h, show sg z = -1 by unfold sg; rw [if_pos h]]
    exact SignN_neg p v z w hv
  · subst h
    rw [hb, decide_eq_false (by omega)]
    exact SignN_zero p v w hv
  · rw [hb, decide_eq_false (by omega), show sg z = 1 by unfold sg; rw [if_neg (by omega), if_neg (by omega)]]
    rw [show (z.natAbs : Int) = z by omega] at hv
    exact SignN_pos p v z w hv h

theorem neg_pick (z : Int) (b : Bool) (hb : b = decide (z < 0)) : (if (!b) = true then -(z.natAbs : Int) else (z.natAbs : Int)) = -z := by
  subst hb
  by_cases h : z < 0
  · rw [decide_eq_true h]; simp; omega
  · rw [decide_eq_false h]; simp; omega
theorem Negative_any (p v : Value) (z : Int) (b : Bool) (w : World) (hv : NatV w p v z.natAbs) (hb : b = decide (z < 0)) :
    Calls Tryz.prog 159 #[.agg #[p, v, .bool b]] w (GivesZ (-z) w) := by
  have SG := Lib.hid (fun W (hb : Below w.heap.size w W) => signed_any p v (!b) z.natAbs W (hv.below hb))
  rw [neg_pick z b hb] at SG
  obtain ⟨t, a, n, rfl, rfl, -, -, -, -, -, -⟩ := hv.form
  obtain ⟨W0, hW0⟩ : ∃ W0, W0 = (w.alloc (.cells #[.int .u64 t, .slice a n n, .bool b] 74)).alloc (.cells #[.int .u64 0, .slice none 0 0, .bool false] 74) := ⟨_, rfl⟩
  have hb0 : Below w.heap.size w W0 := by rw [hW0]; exact ((Below.refl _ _).alloc (Nat.le_refl _) _).alloc (by simp) _
  have S1 : Hid (Res W0 (w.heap.size + 1)) := by rw [hW0]; exact Res.new _ _ _ (by simp)
  have hs1 : w.heap.size + 1 < W0.heap.size := by rw [hW0]; simp
  have c0 : W0.cell? ⟨w.heap.size, 0, none⟩ = some (.int .u64 t) := by rw [hW0]; simp
  have c1 : W0.cell? ⟨w.heap.size, 1, none⟩ = some (.slice a n n) := by rw [hW0]; simp
  have c2 : W0.cell? ⟨w.heap.size, 2, none⟩ = some (.bool b) := by rw [hW0]; simp
  have B1 := Lib.hid hb0
  obtain ⟨y, hy⟩ : ∃ y, y = -z := ⟨_, rfl⟩
  rw [← hy] at SG ⊢
  obtain ⟨nb, hnb⟩ : ∃ nb, nb = !b := ⟨_, rfl⟩
  rw [← hnb] at SG
  have HNB := Lib.hid hnb.symm
  clear hv hb hy hb0
  go_enter Tryz.func159, Tryz.ntmps159
  go_wp2_with fail
  rw [← hW0]
  clear hW0
  rw [HNB.out]
  refine (SG.out _ B1.out).mono ?_
  rintro e w2 ⟨p2, v2, rfl, hv2, hb2⟩
  clear c0 c1 c2 hnb
  have B2 := Lib.hid (B1.out.trans (hb2.mono (by omega)))
  have S2 := Lib.hid (S1.out.below hb2 (by omega))
  have HV2 := Lib.hid hv2
  obtain ⟨t9, a9, n9, rfl, rfl, ht9, hn9, _, _, _, _⟩ := hv2.form
  have HT9 := Lib.hid ht9
  have HN9 := Lib.hid hn9
  obtain ⟨s2, hs2⟩ : ∃ s2, s2 = decide (y < 0) := ⟨_, rfl⟩
  rw [← hs2]
  have HS2 := Lib.hid hs2
  clear hv2 hb2 ht9 hn9 hs2
  obtain ⟨r0, r1, r2, r3, r4, r5⟩ := S2.out
  go_wp2
  exact bodyPost_ret (v := .agg #[.int .u64 t9, .slice a9 n9 n9, .bool s2]) (by simp [results, Tryz.results159, go_sem, r0, r1, r2]) rfl (giveZ B2.out (by omega) S2.out HV2.out HS2.out)
end Go.Proofs.YtkhebidmfjbhaaaGreatDoor
namespace Go.Proofs.YtkhebidmfjbhaaaGreatDoor
open Go.RowKit

/-- The call hands back the integer z and true. -/
def GivesP (z : Int) (w : World) (e : Ending) (w' : World) : Prop := ∃ p v, e = .returned (.tuple #[.agg #[p, v, .bool (decide (z < 0))], .bool true]) ∧ NatV w' p v z.natAbs ∧ Below w.heap.size w w'
def GivesP0 (w : World) (e : Ending) (w' : World) : Prop := e = .returned (.tuple #[.agg #[.int .u64 0, .slice none 0 0, .bool false], .bool false]) ∧ Below w.heap.size w w'
theorem parse_tx (z : Int) (w : World) (hz : dn z ≤ 1000) :
    Calls Tryz.prog 135 #[.string (tx z)] w (GivesP z w) := by
  have SP := Lib.hid (fun w => split_tx z w hz)
  have RD := Lib.hid (fun w => Read_td z w (by omega))
  have S0 := Lib.hid (Res.new w 74 w.heap.size rfl)
  have B0 := Lib.hid (alloc_below w (.cells #[.int .u64 0, .slice none 0 0, .bool false] 74))
  obtain ⟨b, hb⟩ : ∃ b, b = decide (z < 0) := ⟨_, rfl⟩
  obtain ⟨D, hD⟩ : ∃ D, D = td z.natAbs := ⟨_, rfl⟩
  rw [← hb, ← hD] at SP RD
  obtain ⟨X, hX⟩ : ∃ X, X = tx z := ⟨_, rfl⟩
  rw [← hX] at SP ⊢
  have HB := Lib.hid hb
  clear hb hD hX
  go_enter Tryz.func135, Tryz.ntmps135
  go_wp2_with fail
  refine (SP.out _).mono ?_
  rintro e w' ⟨rfl, rfl⟩
  go_wp2_with fail
  refine (RD.out _).mono ?_
  rintro e w2 ⟨p2, v2, rfl, hv2, hb2⟩
  rw [← HB.out]
  have S2 := Lib.hid (S0.out.below hb2 (by simp))
  have B2 := Lib.hid (B0.out.trans (hb2.mono (by simp)))
  have H2 := Lib.hid hv2
  obtain ⟨t9, a9, n9, rfl, rfl, -, -, -, -, -, -⟩ := hv2.form
  clear hv2 hb2
  obtain ⟨r0, r1, r2, r3, r4, r5⟩ := S2.out
  go_wp2
  exact bodyPost_ret (v := .tuple #[.agg #[.int .u64 t9, .slice a9 n9 n9, .bool b], .bool true]) (by simp [results, Tryz.results135, go_sem, r0, r1, r2]) rfl ⟨_, _, by rw [← HB.out], H2.out.put3 r1 r2 _ _ _, below_set (below_set (below_set B2.out 0 (Nat.le_refl _) _) 1 (Nat.le_refl _) _) 2 (Nat.le_refl _) _⟩
/-- What an operation on integers hands back. -/
def GivesX (z : Int) (w : World) (e : Ending) (w' : World) : Prop := e = .returned (.tuple #[.string (if dn z ≤ 1000 then tx z else ⟨#[]⟩), .int .i64 (if dn z ≤ 1000 then 0 else 3)]) ∧ Below w.heap.size w w'
theorem text_any (p v : Value) (z : Int) (b : Bool) (w : World) (tb : Tb w) (hv : NatV w p v z.natAbs) (hb : b = decide (z < 0)) :
    Calls Tryz.prog 136 #[.agg #[p, v, .bool b]] w (GivesX z w) := by
  have h1 := dn_nl hv.1
  rw [dn_abs] at h1
  have h2 := hv.2.1
  have HDG : Hid (∀ W (hb : Below w.heap.size w W), Calls Tryz.prog 151 #[.agg #[p, v]] W (GivesI (dn z) W)) := fun W hb => by have := digits_any _ _ _ W (hv.below hb); rwa [dn_abs] at this
  have HTX : Hid (dn z ≤ 1000 → ∀ W (hb : Below w.heap.size w W), Calls Tryz.prog 123 #[.agg #[p, v, .bool b]] W (GivesY (tx z) W)) := fun h3 W hw => Text_any p v z b W (tb.below hw) (hv.below hw) hb (by omega)
  obtain ⟨t, a, n, rfl, rfl, -, -, -, -, -, -⟩ := hv.form
  obtain ⟨N, hN⟩ : ∃ N, N = dn z := ⟨_, rfl⟩
  rw [← hN] at HDG h1 HTX
  have HN := Lib.hid hN
  have hal := alloc_below w (.cells #[.int .u64 t, .slice a n n, .bool b] 74)
  have B0 := Lib.hid hal
  obtain ⟨W0, hW0⟩ : ∃ W0, W0 = w.alloc (.cells #[.int .u64 t, .slice a n n, .bool b] 74) := ⟨_, rfl⟩
  have c0 : W0.cell? ⟨w.heap.size, 0, none⟩ = some (.int .u64 t) := by rw [hW0]; simp
  have c1 : W0.cell? ⟨w.heap.size, 1, none⟩ = some (.slice a n n) := by rw [hW0]; simp
  have c2 : W0.cell? ⟨w.heap.size, 2, none⟩ = some (.bool b) := by rw [hW0]; simp
  have hz : w.heap.size < W0.heap.size := by rw [hW0]; simp
  rw [← hW0] at B0
  clear hal hv hb hN tb
  by_cases h3 : N ≤ 1000
  · have hp : (if dn z ≤ 1000 then tx z else (⟨#[]⟩ : ByteArray)) = tx z := if_pos (by rw [← HN.out]; exact h3)
    have hq : (if dn z ≤ 1000 then (0 : Int) else 3) = 0 := if_pos (by rw [← HN.out]; exact h3)
    have HP := Lib.hid hp
    have HQ := Lib.hid hq
    have TX := Lib.hid (HTX.out h3)
    obtain ⟨X, hX⟩ : ∃ X, X = tx z := ⟨_, rfl⟩
    rw [← hX] at TX
    have HP2 : Hid ((if dn z ≤ 1000 then tx z else (⟨#[]⟩ : ByteArray)) = X) := by show _ = _; rw [HP.out, hX]
    clear hp hq hX HP
    go_enter Tryz.func136, Tryz.ntmps136
    go_wp2_with fail
    rw [← hW0]
    clear hW0
    refine (HDG.out _ B0.out).mono ?_
    rintro e w1 ⟨rfl, hb1⟩
    have d0 := (below_at hb1 0 hz).trans c0
    have d1 := (below_at hb1 1 hz).trans c1
    have d2 := (below_at hb1 2 hz).trans c2
    have B1 := Lib.hid (B0.out.trans (hb1.mono (by omega)))
    clear hb1 c0 c1 c2
    go_wp2_with fail
    refine (TX.out _ B1.out).mono ?_
    rintro e w2 ⟨rfl, hb2⟩
    have B2 := Lib.hid (B1.out.trans (hb2.mono B1.out.size))
    clear hb2 d0 d1 d2
    go_wp2
    go_ret2
    exact ⟨by rw [HP2.out, HQ.out]; rfl, B2.out⟩
  · have hp : (if dn z ≤ 1000 then tx z else (⟨#[]⟩ : ByteArray)) = ⟨#[]⟩ := if_neg (by rw [← HN.out]; exact h3)
    have hq : (if dn z ≤ 1000 then (0 : Int) else 3) = 3 := if_neg (by rw [← HN.out]; exact h3)
    have HP := Lib.hid hp
    have HQ := Lib.hid hq
    clear hp hq
    go_enter Tryz.func136, Tryz.ntmps136
    go_wp2_with fail
    rw [← hW0]
    clear hW0
    refine (HDG.out _ B0.out).mono ?_
    rintro e w1 ⟨rfl, hb1⟩
    have B1 := Lib.hid (B0.out.trans (hb1.mono (by omega)))
    clear hb1 c0 c1 c2
    go_wp2
    go_ret2
    exact ⟨by rw [HP.out, HQ.out]; rfl, B1.out⟩

/-- A number in a box of the call's own. -/
structure BoxN (W : World) (k : Nat) (p v : Value) (b : Bool) (z : Int) : Prop where
  lt : k < W.heap.size
  c0 : W.cell? ⟨k, 0, none⟩ = some p
  c1 : W.cell? ⟨k, 1, none⟩ = some v
  c2 : W.cell? ⟨k, 2, none⟩ = some (.bool b)
  n : NatV W p v z.natAbs
theorem BoxN.new {W : World} {p v : Value} {b : Bool} {z : Int} (T : TypeId) (h : NatV W p v z.natAbs) : BoxN (W.alloc (.cells #[p, v, .bool b] T)) W.heap.size p v b z :=
  ⟨by simp, by rw [World.cell?_alloc_new]; rfl, by rw [World.cell?_alloc_new]; rfl, by rw [World.cell?_alloc_new]; rfl, h.below (alloc_below _ _)⟩
theorem BoxN.below {W W' : World} {k : Nat} {p v : Value} {b : Bool} {z : Int} (h : BoxN W k p v b z) (hb : Below W.heap.size W W') : BoxN W' k p v b z :=
  ⟨Nat.lt_of_lt_of_le h.lt hb.size, (below_at hb 0 h.lt).trans h.c0, (below_at hb 1 h.lt).trans h.c1, (below_at hb 2 h.lt).trans h.c2, h.n.below hb⟩
end Go.Proofs.YtkhebidmfjbhaaaGreatDoor
namespace Go.Proofs.YtkhebidmfjbhaaaGreatDoor
open Go.RowKit

theorem dn_word {x : Int} (h1 : -9223372036854775808 ≤ x) (h2 : x ≤ 9223372036854775807) : dn x ≤ 1000 := by
  have h3 : dn x ≤ 19 := by
    by_cases h0 : x = 0
    · rw [h0, dn_zero]; omega
    · rw [← dn_abs, dn_ten (by omega)]
      refine Ten.nl_le ?_
      have : Ten.bp 19 = 10000000000000000000 := by unfold Ten.bp; decide
      omega
  omega
theorem tx_le {x : Int} (h : dn x ≤ 1000) : (tx x).size ≤ 1001 := by have := tx_size x; split at this <;> omega
def GivesJ (z : Int) (w : World) (e : Ending) (w' : World) : Prop := e = .returned (.int .i64 z) ∧ Below w.heap.size w w'
theorem cell2_new (w : World) (u v : Value) (t : TypeId) : (w.alloc (.cells #[u, v] t)).cell? ⟨w.heap.size, 0, none⟩ = some u ∧ (w.alloc (.cells #[u, v] t)).cell? ⟨w.heap.size, 1, none⟩ = some v := ⟨by rw [World.cell?_alloc_at _ _ _ _ rfl]; rfl, by rw [World.cell?_alloc_at _ _ _ _ rfl]; rfl⟩
theorem alloc_below' (w : World) (o : Obj) : Below w.heap.size w (w.alloc o) := alloc_below w o
end Go.Proofs.YtkhebidmfjbhaaaGreatDoor
namespace Go.Proofs.YtkhebidmfjbhaaaGreatDoor
open Go.RowKit

end Go.Proofs.YtkhebidmfjbhaaaGreatDoor
namespace Go.Proofs.YtkhebidmfjbhaaaGreatDoor

theorem fl_pos {x y q r : Int} (hy : 0 < y) (h : r + y * q = x) (h0 : 0 ≤ r) (h1 : r < y) : q = x.fdiv y ∧ r = x.fmod y := by
  obtain ⟨a, b⟩ := (Int.fdiv_fmod_unique hy).2 ⟨h, h0, h1⟩
  exact ⟨a.symm, b.symm⟩
theorem fl_neg {x y q r : Int} (hy : y < 0) (h : r + y * q = x) (h0 : y < r) (h1 : r ≤ 0) : q = x.fdiv y ∧ r = x.fmod y := by
  obtain ⟨a, b⟩ := (Int.fdiv_fmod_unique' hy).2 ⟨h, h0, h1⟩
  exact ⟨a.symm, b.symm⟩
end Go.Proofs.YtkhebidmfjbhaaaGreatDoor
