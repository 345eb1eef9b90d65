/-
  Columns as vectors over the field with p elements, and what rests, spans, reduced lists and kernels are.
-/
import Derived.Test.YtdhcffboaiajeaaDoorLin
namespace Go.Proofs.YtdhcffboaiajeaaDoor
open M

theorem md_of {p : Int} (a : Int) : md p a = a % p := rfl
/-- The element of the field for an integer. -/
def io (q : Nat) [NeZero q] (a : Int) : Fin q := ⟨(a % (q : Int)).toNat, by
  have h := Nat.pos_of_ne_zero (NeZero.ne q)
  have h1 := Int.emod_nonneg a (b := (q : Int)) (by omega)
  have h2 := Int.emod_lt_of_pos a (b := (q : Int)) (by omega)
  omega⟩
section
variable {q : Nat} [NeZero q]
theorem io_val (a : Int) : (((io q a).val : Nat) : Int) = md q a := by
  have h := Nat.pos_of_ne_zero (NeZero.ne q)
  have h1 := Int.emod_nonneg a (b := (q : Int)) (by omega)
  show (((a % (q : Int)).toNat : Nat) : Int) = a % q
  omega
theorem io_eq {a b : Int} : io q a = io q b ↔ md q a = md q b := by
  constructor
  · intro h
    rw [← io_val, ← io_val, h]
  · intro h
    apply Fin.ext
    have h1 := io_val (q := q) a
    have h2 := io_val (q := q) b
    rw [h] at h1
    omega
omit [NeZero q] in
theorem fin_int {x y : Fin q} (h : ((x.val : Nat) : Int) = ((y.val : Nat) : Int)) : x = y := by
  apply Fin.ext
  omega
theorem io_add (a b : Int) : io q (a + b) = io q a + io q b := by
  apply fin_int
  rw [io_val, Fin.val_add, Int.natCast_emod, Int.natCast_add, io_val, io_val]
  exact Int.add_emod a b q
theorem io_mul (a b : Int) : io q (a * b) = io q a * io q b := by
  apply fin_int
  rw [io_val, Fin.val_mul, Int.natCast_emod, Int.natCast_mul, io_val, io_val]
  exact Int.mul_emod a b q
theorem io_zero : io q 0 = 0 := by
  apply fin_int
  rw [io_val]
  simp [md]
theorem io_one : io q 1 = 1 := by
  apply fin_int
  rw [io_val]
  show md q 1 = ((1 % q : Nat) : Int)
  rw [Int.natCast_emod]
  rfl
theorem io_md (a : Int) : io q (md q a) = io q a := by
  rw [io_eq]
  exact Int.emod_emod_of_dvd a (Int.dvd_refl _)
theorem io_neg (a : Int) : io q (-a) = -io q a := by
  have h := io_add (q := q) a (-a)
  rw [Int.add_right_neg, io_zero] at h
  grind
theorem io_sub (a b : Int) : io q (a - b) = io q a - io q b := by
  rw [Int.sub_eq_add_neg, io_add, io_neg]
  grind
theorem io_p : io q (q : Int) = 0 := by
  rw [← io_zero, io_eq]
  simp [md]
theorem io_self (x : Fin q) : io q ((x.val : Nat) : Int) = x := by
  apply fin_int
  rw [io_val]
  have := x.isLt
  exact Int.emod_eq_of_lt (by omega) (by omega)
/-- Residues are equal where the elements are. -/
theorem io_inj {a b : Int} (h : io q a = io q b) (ha : 0 ≤ a) (ha' : a < q) (hb : 0 ≤ b) (hb' : b < q) : a = b := by
  have := io_eq.1 h
  rwa [md_of, md_of, Int.emod_eq_of_lt ha ha', Int.emod_eq_of_lt hb hb'] at this
/-- The vector of a column. -/
def vc (q : Nat) [NeZero q] (c : List Tm) (i : Int) : Fin q := io q (co c i)
/-- The vectors of a list. -/
def vs (q : Nat) [NeZero q] (L : List (List Tm)) (k : Nat) : Int → Fin q := vc q (L.getD k [])
theorem vc_ext {a b : List Tm} (ha : Col q a) (hb : Col q b) (h : ∀ i, vc q a i = vc q b i) : a = b := by
  have hq := Nat.pos_of_ne_zero (NeZero.ne q)
  refine col_ext ha hb fun i => ?_
  have h1 := co_bd (by omega) ha i
  have h2 := co_bd (by omega) hb i
  exact io_inj (h i) h1.1 h1.2 h2.1 h2.2
theorem vc_pls {a b : List Tm} {k : Int} (ha : Col q a) (hb : Col q b) (i : Int) : vc q (pls q a k b) i = vc q a i + io q k * vc q b i := by
  unfold vc
  rw [pls_co ha hb, io_md, io_add, io_mul, io_md]
theorem vc_sp {f : Int → Int} {n : Nat} (i : Int) : vc q (sp (fun i => md q (f i)) 0 n) i = if 0 ≤ i ∧ i < n then io q (f i) else 0 := by
  unfold vc
  rw [sp_co]
  by_cases h : 0 ≤ i ∧ i < n
  · rw [if_pos h, if_pos (by omega), io_md]
  · rw [if_neg h, if_neg (by omega), io_zero]
theorem vc_nil (i : Int) : vc q [] i = 0 := io_zero
/-- Sums over the integers. -/
def smI (f : Nat → Int) : Nat → Int
  | 0 => 0
  | n + 1 => smI f n + f n
theorem io_sm (f : Nat → Int) : ∀ n, io q (smI f n) = sm (fun k => io q (f k)) n
  | 0 => io_zero
  | n + 1 => by
    unfold smI sm
    rw [io_add, io_sm f n]
end
/-- All columns of a list are columns. -/
abbrev Cols (p : Int) (L : List (List Tm)) : Prop := ∀ c, c ∈ L → Col p c
theorem getD_mem {L : List (List Tm)} {k : Nat} (h : k < L.length) : L.getD k [] ∈ L := by
  rw [List.getD_eq_getElem?_getD, List.getElem?_eq_getElem h]
  exact List.getElem_mem h
theorem Cols.at_ {p : Int} {L : List (List Tm)} (h : Cols p L) (k : Nat) : Col p (L.getD k []) := by
  by_cases g : k < L.length
  · exact h _ (getD_mem g)
  · rw [List.getD_eq_getElem?_getD, List.getElem?_eq_none (by omega)]
    trivial
/-- A list is independent in its low rows. -/
structure Ind (p : Int) (L : List (List Tm)) : Prop where
  cols : Cols p L
  full : ∀ k, k < L.length → L.getD k [] ≠ []
  inj : ∀ j k, j < L.length → k < L.length → low (L.getD j []) = low (L.getD k []) → j = k
/-- The combination of a list that the integers u give. -/
def cmb (L : List (List Tm)) (u : Nat → Int) (i : Int) : Int := smI (fun k => u k * co (L.getD k []) i) L.length
/-- r is the rest of c, and u the combination used. -/
structure IsRest (p : Int) (L : List (List Tm)) (c r u : List Tm) : Prop where
  col : Col p r
  ucol : Col p u
  urow : ∀ i, (L.length : Int) ≤ i → co u i = 0
  zero : ∀ k, k < L.length → co r (low (L.getD k [])) = 0
  sum : ∀ i, md p (co r i + cmb L (fun k => co u k) i) = co c i
section
variable {q : Nat} [NeZero q]
theorem io_cmb (L : List (List Tm)) (u : Nat → Int) (i : Int) : io q (cmb L u i) = lc (vs q L) L.length (fun k => io q (u k)) i := by
  unfold cmb lc
  rw [io_sm]
  exact sm_congr fun k _ => io_mul _ _
theorem Ind.ech {L : List (List Tm)} (h : Ind q L) : Ech (vs q L) (fun k => low (L.getD k [])) L.length := by
  refine ⟨fun k hk e => ?_, fun k hk i hi => ?_, h.inj⟩
  · obtain ⟨-, -, -, h4, h5, h6, -⟩ := low_props (h.cols.at_ k) (h.full k hk)
    have : io q (co (L.getD k []) (low (L.getD k []))) = io q 0 := e.trans io_zero.symm
    rw [h6] at this
    have := io_inj this (by omega) h5 (by omega) (by omega)
    omega
  · obtain ⟨-, -, -, -, -, -, h7⟩ := low_props (h.cols.at_ k) (h.full k hk)
    show io q _ = 0
    rw [h7 i hi, io_zero]
theorem IsRest.sumv {L : List (List Tm)} {c r u : List Tm} (h : IsRest q L c r u) (_ : Col q c) (i : Int) : vc q r i + lc (vs q L) L.length (fun k => vc q u k) i = vc q c i := by
  have h1 := congrArg (io q) (h.sum i)
  rw [io_md, io_add, io_cmb] at h1
  exact h1
/-- There is one rest. -/
theorem IsRest.unique {L : List (List Tm)} {c r u s t : List Tm} (hL : Ind q L) (F : Fld q) (hc : Col q c) (h : IsRest q L c r u) (g : IsRest q L c s t) : r = s ∧ u = t := by
  obtain ⟨e1, e2⟩ := hL.ech.rest_unique F (r := vc q r) (s := vc q s) (u := fun k => vc q u k) (t := fun k => vc q t k) (fun i => (h.sumv hc i).trans (g.sumv hc i).symm) (fun k hk => by show io q _ = 0; rw [h.zero k hk, io_zero]) (fun k hk => by show io q _ = 0; rw [g.zero k hk, io_zero])
  refine ⟨vc_ext h.col g.col e2, vc_ext h.ucol g.ucol fun i => ?_⟩
  by_cases b1 : i < 0
  · show io q _ = io q _
    rw [co_out h.ucol (.inl b1), co_out g.ucol (.inl b1)]
  · by_cases b2 : (L.length : Int) ≤ i
    · show io q _ = io q _
      rw [h.urow i b2, g.urow i b2]
    · have := e1 i.toNat (by omega)
      rwa [show ((i.toNat : Nat) : Int) = i by omega] at this
/-- A column is in the span of a list. -/
def Spn (q : Nat) [NeZero q] (L : List (List Tm)) (c : List Tm) : Prop := InSp (vs q L) L.length (vc q c)
/-- The rest is empty just if the column is in the span. -/
theorem IsRest.nil_iff {L : List (List Tm)} {c r u : List Tm} (hL : Ind q L) (F : Fld q) (hc : Col q c) (h : IsRest q L c r u) : r = [] ↔ Spn q L c := by
  constructor
  · rintro rfl
    refine ⟨fun k => vc q u k, fun i => ?_⟩
    rw [← h.sumv hc i, vc_nil]
    grind
  · rintro ⟨t, ht⟩
    obtain ⟨-, e2⟩ := hL.ech.rest_unique F (r := vc q r) (s := fun _ => 0) (u := fun k => vc q u k) (t := t) (fun i => by rw [h.sumv hc i, ht]; grind) (fun k hk => by show io q _ = 0; rw [h.zero k hk, io_zero]) (fun _ _ => rfl)
    exact vc_ext h.col trivial (fun i => by rw [e2, vc_nil])
/-- The two lists span the same. -/
def Same (q : Nat) [NeZero q] (L M : List (List Tm)) : Prop := (∀ c, c ∈ L → Spn q M c) ∧ ∀ c, c ∈ M → Spn q L c
theorem Spn.mono {L M : List (List Tm)} (h : ∀ c, c ∈ L → Spn q M c) {c : List Tm} (hc : Spn q L c) : Spn q M c :=
  InSp.trans hc fun _ hk => h _ (getD_mem hk)
theorem Same.refl (L : List (List Tm)) : Same q L L := by
  have : ∀ c, c ∈ L → Spn q L c := fun c hc => by
    obtain ⟨k, hk, e⟩ := List.getElem_of_mem hc
    have h := InSp.self (E := vs q L) hk
    have e2 : vs q L k = vc q c := by
      unfold vs
      rw [List.getD_eq_getElem?_getD, List.getElem?_eq_getElem hk, e]
      rfl
    rwa [e2] at h
  exact ⟨this, this⟩
theorem Same.symm {L M : List (List Tm)} (h : Same q L M) : Same q M L := ⟨h.2, h.1⟩
theorem Same.trans {L M N : List (List Tm)} (h : Same q L M) (g : Same q M N) : Same q L N := ⟨fun c hc => (h.1 c hc).mono g.1, fun c hc => (g.2 c hc).mono h.2⟩
/-- Independent lists that span the same are equally long. -/
theorem Same.len {L M : List (List Tm)} (F : Fld q) (h : Same q L M) (hL : Ind q L) (hM : Ind q M) : L.length = M.length :=
  Nat.le_antisymm (hL.ech.le hM.ech F fun _ hk => h.1 _ (getD_mem hk)) (hM.ech.le hL.ech F fun _ hk => h.2 _ (getD_mem hk))
end
/-- A reduced list. -/
structure Rd (p : Int) (L : List (List Tm)) : Prop where
  cols : Cols p L
  full : ∀ k, k < L.length → L.getD k [] ≠ []
  one : ∀ k, k < L.length → lowC (L.getD k []) = 1
  up : ∀ j k, j < k → k < L.length → low (L.getD j []) < low (L.getD k [])
  other : ∀ j k, j < L.length → k < L.length → j ≠ k → co (L.getD j []) (low (L.getD k [])) = 0
theorem Rd.ind {p : Int} {L : List (List Tm)} (h : Rd p L) : Ind p L := by
  refine ⟨h.cols, h.full, fun j k hj hk e => ?_⟩
  rcases Nat.lt_trichotomy j k with c | c | c
  · have := h.up j k c hk; omega
  · exact c
  · have := h.up k j c hj; omega
section
variable {q : Nat} [NeZero q]
theorem Rd.red {L : List (List Tm)} (h : Rd q L) : Red (vs q L) (fun k => low (L.getD k [])) L.length := by
  refine ⟨fun k hk => ?_, h.ind.ech.above, h.up, fun j k hj hk e => ?_⟩
  · obtain ⟨-, -, -, -, -, h6, -⟩ := low_props (h.cols.at_ k) (h.full k hk)
    show io q _ = 1
    rw [h6, h.one k hk, io_one]
  · show io q _ = 0
    rw [h.other j k hj hk e, io_zero]
theorem one_ne (hq : 2 ≤ q) : (1 : Fin q) ≠ 0 := by
  rw [← io_one, ← io_zero]
  intro h
  have := io_inj h (by omega) (by omega) (by omega) (by omega)
  omega
/-- There is one reduced list for a span. -/
theorem Rd.unique {L M : List (List Tm)} (F : Fld q) (hq : 2 ≤ q) (h : Same q L M) (hL : Rd q L) (hM : Rd q M) : L = M := by
  obtain ⟨e1, e2⟩ := hL.red.unique hM.red F (one_ne hq) (fun k hk => h.1 _ (getD_mem hk)) (fun k hk => h.2 _ (getD_mem hk))
  refine List.ext_getElem e1 fun k h1 h2 => ?_
  have e3 := vc_ext (hL.cols.at_ k) (hM.cols.at_ k) (fun i => e2 k h1 i)
  rw [List.getD_eq_getElem?_getD, List.getD_eq_getElem?_getD, List.getElem?_eq_getElem h1, List.getElem?_eq_getElem h2] at e3
  exact e3
end
end Go.Proofs.YtdhcffboaiajeaaDoor
