/-
  The mathematics of the kernel's loop.
-/
import Derived.Test.YtdhcffboaiajeaaDoorRestM
namespace Go.Proofs.YtdhcffboaiajeaaDoor
open M

section
variable {q : Nat} [NeZero q]
theorem sm_swap (f : Nat → Nat → Fin q) : ∀ (n m : Nat), sm (fun i => sm (fun j => f i j) m) n = sm (fun j => sm (fun i => f i j) n) m
  | 0, m => by
    exact (sm_zero (f := fun j => sm (fun i => f i j) 0) (fun _ _ => rfl)).symm
  | n + 1, m => by
    show sm (fun i => sm (fun j => f i j) m) n + sm (fun j => f n j) m = _
    rw [sm_swap f n m, ← sm_add]
    rfl
/-- The combination of l that the column x gives, as a vector. -/
def LC (q : Nat) [NeZero q] (l : List (List Tm)) (x : List Tm) (i : Int) : Fin q := lc (vs q l) l.length (fun t => vc q x t) i
theorem LC_cmb (l : List (List Tm)) (x : List Tm) (i : Int) : io q (cmb l (fun k => co x k) i) = LC q l x i := io_cmb l _ i
theorem LC_pls {l : List (List Tm)} {a b : List Tm} {k : Int} (ha : Col q a) (hb : Col q b) (i : Int) : LC q l (pls q a k b) i = LC q l a i + io q k * LC q l b i := by
  unfold LC lc
  rw [← sm_mul, ← sm_add]
  refine sm_congr fun t _ => ?_
  show vc q (pls q a k b) t * _ = vc q a t * _ + io q k * (vc q b t * _)
  rw [vc_pls ha hb]
  grind
theorem vc_unit (_ : 2 ≤ q) (j i : Int) : vc q [(j, 1)] i = if i = j then 1 else 0 := by
  unfold vc co co
  by_cases h : j = i
  · rw [if_pos h, if_pos h.symm, io_one]
  · rw [if_neg h, if_neg (fun e => h e.symm), io_zero]
theorem LC_unit (hq : 2 ≤ q) {l : List (List Tm)} {j : Nat} (hj : j < l.length) (i : Int) : LC q l [((j : Int), 1)] i = vc q (l.getD j []) i := by
  unfold LC lc
  rw [sm_one hj]
  · show vc q [((j : Int), 1)] j * vc q (l.getD j []) i = _
    rw [vc_unit hq, if_pos rfl]
    grind
  · intro t _ hne
    show vc q [((j : Int), 1)] t * _ = 0
    rw [vc_unit hq, if_neg (by omega)]
    grind
/-- The column that combination returns. -/
def cmC (q : Nat) (M : List (List Tm)) (u : List Tm) : List Tm := sp (fun i => md q (cmb M (fun k => co u k) i)) 0 1024
set_option linter.unusedSectionVars false in
theorem cmC_col (hp : pr q = true) (M : List (List Tm)) (u : List Tm) : Col q (cmC q M u) := sp_col (fun _ => md_bd hp _) (by omega) (by omega)
theorem vc_cmC {M : List (List Tm)} {u : List Tm} (hM : Cols q M) (i : Int) : vc q (cmC q M u) i = lc (vs q M) M.length (fun k => vc q u k) i := by
  unfold cmC
  rw [vc_sp]
  by_cases h : 0 ≤ i ∧ i < ((1024 : Nat) : Int)
  · rw [if_pos h, io_cmb]
    rfl
  · rw [if_neg h]
    unfold lc
    rw [sm_zero]
    intro k _
    show vc q u k * io q (co (M.getD k []) i) = 0
    rw [co_out (hM.at_ k) (by omega), io_zero]
    grind
theorem LC_cmC {l M : List (List Tm)} {u : List Tm} (hM : Cols q M) (i : Int) : LC q l (cmC q M u) i = sm (fun k => vc q u k * LC q l (M.getD k []) i) M.length := by
  unfold LC
  have e : lc (vs q l) l.length (fun t => vc q (cmC q M u) t) i = sm (fun t => sm (fun k => vc q u k * vc q (M.getD k []) t * vs q l t i) M.length) l.length := by
    unfold lc
    refine sm_congr fun t _ => ?_
    show vc q (cmC q M u) t * _ = _
    rw [vc_cmC hM]
    unfold lc
    have : ∀ (x : Fin q) (f : Nat → Fin q) (n : Nat), sm f n * x = sm (fun k => f k * x) n := by
      intro x f n
      have := sm_mul (a := x) (f := f) (n := n)
      have e2 : sm (fun k => f k * x) n = sm (fun k => x * f k) n := sm_congr fun k _ => by grind
      rw [e2, this]
      grind
    rw [this]
    rfl
  rw [e, sm_swap]
  refine sm_congr fun k _ => ?_
  unfold lc
  rw [← sm_mul]
  exact sm_congr fun t _ => by grind
theorem co_zero_of {c : List Tm} {p l : Int} (hp : p = (q : Int)) (h : Cl p l c) {i : Int} (hv : vc q c i = 0) : co c i = 0 := by
  have hq := Nat.pos_of_ne_zero (NeZero.ne q)
  have hb := co_bd (by omega) h i
  exact io_inj (hv.trans io_zero.symm) hb.1 (by omega) (by omega) (by omega)
/-- A column whose last entry is at j. -/
theorem low_of {c : List Tm} (hc : Col q c) {j : Int} (h1 : vc q c j ≠ 0) (h2 : ∀ i, j < i → vc q c i = 0) : c ≠ [] ∧ low c = j ∧ vc q c j = io q (lowC c) := by
  have h0 : c ≠ [] := fun e => h1 (by rw [e]; exact vc_nil j)
  obtain ⟨-, l1, l2, l3, l4, l5, l6⟩ := low_props hc h0
  have hl : low c = j := by
    rcases Int.lt_trichotomy (low c) j with g | g | g
    · exact absurd (by show io q _ = 0; rw [l6 j g, io_zero]) h1
    · exact g
    · have := co_zero_of rfl hc (h2 _ g)
      omega
  refine ⟨h0, hl, ?_⟩
  show io q (co c j) = _
  rw [← hl, l5]
/-- Behind the first j columns of l. -/
structure KI (q : Nat) [NeZero q] (l E M Z : List (List Tm)) (Jn : Int → Prop) (j : Nat) : Prop where
  ind : Ind q E
  same : Same q E (l.take j)
  len : M.length = E.length
  mcol : Cols q M
  msup : ∀ k, k < M.length → ∀ i, vc q (M.getD k []) i ≠ 0 → 0 ≤ i ∧ i < j ∧ Jn i
  mlc : ∀ k, k < M.length → ∀ i, LC q l (M.getD k []) i = vc q (E.getD k []) i
  zcol : Cols q Z
  zfull : ∀ k, k < Z.length → Z.getD k [] ≠ [] ∧ lowC (Z.getD k []) = 1 ∧ 0 ≤ low (Z.getD k []) ∧ low (Z.getD k []) < j ∧ ¬ Jn (low (Z.getD k []))
  zsup : ∀ k, k < Z.length → ∀ i, vc q (Z.getD k []) i ≠ 0 → i = low (Z.getD k []) ∨ (0 ≤ i ∧ i < j ∧ Jn i)
  zup : ∀ a b, a < b → b < Z.length → low (Z.getD a []) < low (Z.getD b [])
  zlc : ∀ k, k < Z.length → ∀ i, LC q l (Z.getD k []) i = 0
  full : ∀ t : Nat, t < j → ¬ Jn t → ∃ k, k < Z.length ∧ low (Z.getD k []) = t
  free : ∀ t : Nat, t < j → Jn t → ¬ Spn q (l.take t) (l.getD t [])
  jn : ∀ i, Jn i → 0 ≤ i ∧ i < j
  cnt : E.length + Z.length = j
theorem KI.start (l : List (List Tm)) : KI q l [] [] [] (fun _ => False) 0 := by
  have nn : ∀ {k : Nat}, ¬ k < ([] : List (List Tm)).length := fun h => by simp at h
  have nm : ∀ {c : List Tm}, ¬ c ∈ ([] : List (List Tm)) := fun h => by simp at h
  refine ⟨⟨fun c hc => absurd hc nm, fun k hk => absurd hk nn, fun j k hj => absurd hj nn⟩, ⟨fun c hc => absurd hc nm, fun c hc => absurd hc (by simp)⟩, rfl, fun c hc => absurd hc nm, fun k hk => absurd hk nn, fun k hk => absurd hk nn, fun c hc => absurd hc nm, fun k hk => absurd hk nn, fun k hk => absurd hk nn, fun a b _ hb => absurd hb nn, fun k hk => absurd hk nn, fun t ht => absurd ht (by omega), fun t ht => absurd ht (by omega), fun _ h => h.elim, rfl⟩
/-- The combination of l for the next column. -/
def nextX (q : Nat) (M : List (List Tm)) (j : Nat) (u : List Tm) : List Tm := pls q [((j : Int), 1)] (-1) (cmC q M u)
set_option linter.unusedSectionVars false in
theorem unit_col (hq : 2 ≤ q) {j : Nat} (hj : j < 1024) : Col q [((j : Int), 1)] := ⟨by show (0 : Int) ≤ j; omega, by show (j : Int) < 1024; omega, by show (1 : Int) ≤ 1; omega, by show (1 : Int) < q; omega, by show (-1 : Int) < j; omega, trivial⟩
set_option linter.unusedSectionVars false in
theorem nextX_col (hp : pr q = true) (M : List (List Tm)) (j : Nat) (u : List Tm) : Col q (nextX q M j u) := pls_col hp _ _ _
section
variable {l E M Z : List (List Tm)} {Jn : Int → Prop} {j : Nat} {r u : List Tm}
theorem KI.vcD (h : KI q l E M Z Jn j) {i : Int} (hi : vc q (cmC q M u) i ≠ 0) : 0 ≤ i ∧ i < j ∧ Jn i := by
  rw [vc_cmC h.mcol] at hi
  by_cases g : ∃ k, k < M.length ∧ vc q (M.getD k []) i ≠ 0
  · obtain ⟨k, h1, h2⟩ := g
    exact h.msup k h1 i h2
  · exfalso
    apply hi
    unfold lc
    refine sm_zero fun k hk => ?_
    have : vc q (M.getD k []) i = 0 := by
      by_cases e : vc q (M.getD k []) i = 0
      · exact e
      · exact absurd ⟨k, hk, e⟩ g
    show vc q u k * vc q (M.getD k []) i = 0
    rw [this]
    grind
theorem KI.vcX (_h : KI q l E M Z Jn j) (hp : pr q = true) (hj : j < 1024) (i : Int) : vc q (nextX q M j u) i = (if i = j then 1 else 0) - vc q (cmC q M u) i := by
  have hq := (pr_bd hp).1
  unfold nextX
  rw [vc_pls (unit_col (by omega) hj) (cmC_col hp M u), vc_unit (by omega), io_neg, io_one]
  grind
theorem KI.lcX (h : KI q l E M Z Jn j) (hp : pr q = true) (hj : j < l.length) (hj2 : j < 1024) (hc : Col q (l.getD j [])) (hr : IsRest q E (l.getD j []) r u) (i : Int) : LC q l (nextX q M j u) i = vc q r i := by
  have hq := (pr_bd hp).1
  unfold nextX
  rw [LC_pls (unit_col (by omega) hj2) (cmC_col hp M u), LC_unit (by omega) hj, LC_cmC h.mcol, io_neg, io_one]
  have e : sm (fun k => vc q u k * LC q l (M.getD k []) i) M.length = lc (vs q E) E.length (fun k => vc q u k) i := by
    rw [h.len]
    unfold lc
    exact sm_congr fun k hk => by rw [h.mlc k (by rw [h.len]; exact hk)]; rfl
  rw [e]
  have := hr.sumv hc i
  grind
theorem take_snoc {l : List (List Tm)} {j : Nat} (hj : j < l.length) : l.take (j + 1) = l.take j ++ [l.getD j []] := by
  have e : l.getD j [] = l[j] := by rw [List.getD_eq_getElem?_getD, List.getElem?_eq_getElem hj]; rfl
  rw [e, List.take_append_getElem]
/-- The next column joins. -/
theorem KI.join (h : KI q l E M Z Jn j) (F : Fld q) (hp : pr q = true) (hj : j < l.length) (hj2 : j < 1024) (hl : Cols q l) (hr : IsRest q E (l.getD j []) r u) (h0 : r ≠ []) : KI q l (E ++ [r]) (M ++ [nextX q M j u]) Z (fun i => Jn i ∨ i = j) (j + 1) := by
  have hc := hl.at_ j
  have hq := (pr_bd hp).1
  have hxs : ∀ i, vc q (nextX q M j u) i ≠ 0 → 0 ≤ i ∧ i < ((j + 1 : Nat) : Int) ∧ (Jn i ∨ i = j) := by
    intro i hi
    rw [h.vcX hp hj2] at hi
    by_cases e : i = j
    · exact ⟨by omega, by omega, .inr e⟩
    · rw [if_neg e] at hi
      have := h.vcD (u := u) (i := i) (fun z => hi (by rw [z]; grind))
      exact ⟨this.1, by omega, .inl this.2.2⟩
  refine ⟨h.ind.snoc hr.col h0 hr.zero, ?_, by simp [h.len], fun c hc' => ?_, fun k hk i hi => ?_, fun k hk i => ?_, h.zcol, fun k hk => ?_, fun k hk i hi => ?_, h.zup, h.zlc, fun t ht hn => ?_, fun t ht hJ => ?_, fun i hi => ?_, ?_⟩
  · rw [take_snoc hj]
    refine (hr.same hc).trans ⟨fun d hd => ?_, fun d hd => ?_⟩
    · rcases List.mem_append.1 hd with g | g
      · exact (h.same.1 d g).append
      · rw [List.mem_singleton.1 g]; exact Spn.of_mem (by simp)
    · rcases List.mem_append.1 hd with g | g
      · exact (h.same.2 d g).append
      · rw [List.mem_singleton.1 g]; exact Spn.of_mem (by simp)
  · rcases List.mem_append.1 hc' with g | g
    · exact h.mcol c g
    · rw [List.mem_singleton.1 g]; exact nextX_col hp M j u
  · rw [List.length_append, List.length_singleton] at hk
    by_cases g : k < M.length
    · rw [getD_append_left g] at hi
      have := h.msup k g i hi
      exact ⟨this.1, by omega, .inl this.2.2⟩
    · rw [show k = M.length by omega, getD_append_end] at hi
      exact hxs i hi
  · rw [List.length_append, List.length_singleton] at hk
    by_cases g : k < M.length
    · rw [getD_append_left g, getD_append_left (by rw [← h.len]; exact g)]
      exact h.mlc k g i
    · rw [show k = M.length by omega, getD_append_end, h.len, getD_append_end]
      exact h.lcX hp hj hj2 hc hr i
  · obtain ⟨a1, a2, a3, a4, a5⟩ := h.zfull k hk
    exact ⟨a1, a2, a3, by omega, fun e => e.elim a5 (fun e => by omega)⟩
  · rcases h.zsup k hk i hi with g | g
    · exact .inl g
    · exact .inr ⟨g.1, by omega, .inl g.2.2⟩
  · have hn2 : ¬ Jn t := fun e => hn (.inl e)
    have : t ≠ j := fun e => hn (.inr (by omega))
    exact h.full t (by omega) hn2
  · by_cases e : t = j
    · subst e
      intro hs
      have h1 : Spn q E (l.getD t []) := hs.mono h.same.2
      exact h0 ((hr.nil_iff h.ind F hc).2 h1)
    · rcases hJ with g | g
      · exact h.free t (by omega) g
      · omega
  · rcases hi with g | g
    · have := h.jn i g
      omega
    · omega
  · have := h.cnt
    rw [List.length_append, List.length_singleton]
    omega
/-- The next column is a combination: one column more of the kernel. -/
theorem KI.zero (h : KI q l E M Z Jn j) (F : Fld q) (hp : pr q = true) (hj : j < l.length) (hj2 : j < 1024) (hl : Cols q l) (hr : IsRest q E (l.getD j []) [] u) : KI q l E M (Z ++ [nextX q M j u]) Jn (j + 1) := by
  have hc := hl.at_ j
  have hq := (pr_bd hp).1
  have hD : vc q (cmC q M u) j = 0 := by
    by_cases e : vc q (cmC q M u) j = 0
    · exact e
    · have := h.vcD e
      omega
  have hx1 : vc q (nextX q M j u) j = 1 := by
    rw [h.vcX hp hj2, if_pos rfl, hD]
    grind
  have hxu : ∀ i : Int, (j : Int) < i → vc q (nextX q M j u) i = 0 := by
    intro i hi
    rw [h.vcX hp hj2, if_neg (by omega)]
    by_cases e : vc q (cmC q M u) i = 0
    · rw [e]; grind
    · have := h.vcD e
      omega
  obtain ⟨x1, x2, x3⟩ := low_of (nextX_col hp M j u) (j := (j : Int)) (by rw [hx1]; exact one_ne (by omega)) hxu
  have x4 : lowC (nextX q M j u) = 1 := by
    rw [hx1, ← io_one] at x3
    obtain ⟨-, -, -, a3, a4, -, -⟩ := low_props (nextX_col hp M j u) x1
    exact (io_inj x3 (by omega) (by omega) (by omega) a4).symm
  have hzl : ∀ k, k < Z.length → low (Z.getD k []) < j := fun k hk => (h.zfull k hk).2.2.2.1
  refine ⟨h.ind, ?_, h.len, h.mcol, fun k hk i hi => ?_, h.mlc, fun c hc' => ?_, fun k hk => ?_, fun k hk i hi => ?_, fun a b hab hb => ?_, fun k hk i => ?_, fun t ht hn => ?_, fun t ht hJ => ?_, fun i hi => ?_, ?_⟩
  · have hs : Spn q E (l.getD j []) := (hr.nil_iff h.ind F hc).1 rfl
    rw [take_snoc hj]
    refine ⟨fun d hd => (h.same.1 d hd).append, fun d hd => ?_⟩
    rcases List.mem_append.1 hd with g | g
    · exact h.same.2 d g
    · rw [List.mem_singleton.1 g]; exact hs
  · have := h.msup k hk i hi
    exact ⟨this.1, by omega, this.2.2⟩
  · rcases List.mem_append.1 hc' with g | g
    · exact h.zcol c g
    · rw [List.mem_singleton.1 g]; exact nextX_col hp M j u
  · rw [List.length_append, List.length_singleton] at hk
    by_cases g : k < Z.length
    · rw [getD_append_left g]
      obtain ⟨a1, a2, a3, a4, a5⟩ := h.zfull k g
      exact ⟨a1, a2, a3, by omega, a5⟩
    · rw [show k = Z.length by omega, getD_append_end, x2]
      exact ⟨x1, x4, by omega, by omega, fun e => by have := h.jn _ e; omega⟩
  · rw [List.length_append, List.length_singleton] at hk
    by_cases g : k < Z.length
    · rw [getD_append_left g] at hi ⊢
      rcases h.zsup k g i hi with g | g
      · exact .inl g
      · exact .inr ⟨g.1, by omega, g.2.2⟩
    · rw [show k = Z.length by omega, getD_append_end] at hi ⊢
      rw [x2]
      by_cases e : i = j
      · exact .inl e
      · rw [h.vcX hp hj2, if_neg e] at hi
        have := h.vcD (u := u) (i := i) (fun z => hi (by rw [z]; grind))
        exact .inr ⟨this.1, by omega, this.2.2⟩
  · rw [List.length_append, List.length_singleton] at hb
    by_cases g : b < Z.length
    · rw [getD_append_left (by omega), getD_append_left g]
      exact h.zup a b hab g
    · rw [getD_append_left (by omega), show b = Z.length by omega, getD_append_end, x2]
      exact hzl a (by omega)
  · rw [List.length_append, List.length_singleton] at hk
    by_cases g : k < Z.length
    · rw [getD_append_left g]
      exact h.zlc k g i
    · rw [show k = Z.length by omega, getD_append_end, h.lcX hp hj hj2 hc hr i]
      exact vc_nil i
  · by_cases e : t = j
    · subst e
      exact ⟨Z.length, by simp, by rw [getD_append_end, x2]⟩
    · obtain ⟨k, h1, h2⟩ := h.full t (by omega) hn
      exact ⟨k, by simp; omega, by rw [getD_append_left h1]; exact h2⟩
  · by_cases e : t = j
    · subst e
      have := h.jn _ hJ
      omega
    · exact h.free t (by omega) hJ
  · have := h.jn i hi
    omega
  · have := h.cnt
    rw [List.length_append, List.length_singleton]
    omega
/-- Behind all columns: the kernel. -/
theorem KI.ker (h : KI q l E M Z Jn l.length) (F : Fld q) (hp : pr q = true) : IsKer q l Z := by
  have hq := (pr_bd hp).1
  have hother : ∀ a b, a < Z.length → b < Z.length → a ≠ b → vc q (Z.getD a []) (low (Z.getD b [])) = 0 := by
    intro a b ha hb hne
    by_cases e : vc q (Z.getD a []) (low (Z.getD b [])) = 0
    · exact e
    · rcases h.zsup a ha _ e with g | g
      · rcases Nat.lt_trichotomy a b with c | c | c
        · have := h.zup a b c hb; omega
        · exact absurd c hne
        · have := h.zup b a c ha; omega
      · exact absurd g.2.2 (h.zfull b hb).2.2.2.2
  have hone : ∀ k, k < Z.length → vc q (Z.getD k []) (low (Z.getD k [])) = 1 := by
    intro k hk
    obtain ⟨a1, a2, -⟩ := h.zfull k hk
    obtain ⟨-, -, -, -, -, a3, -⟩ := low_props (h.zcol.at_ k) a1
    show io q _ = 1
    rw [a3, a2, io_one]
  have hred : Rd q Z := ⟨h.zcol, fun k hk => (h.zfull k hk).1, fun k hk => (h.zfull k hk).2.1, h.zup, fun a b ha hb hne => co_zero_of rfl (h.zcol.at_ a) (hother a b ha hb hne)⟩
  have hmem : ∀ {z : List Tm}, z ∈ Z → ∃ k, k < Z.length ∧ Z.getD k [] = z := fun {z} hz => by
    obtain ⟨k, hk, e⟩ := List.getElem_of_mem hz
    exact ⟨k, hk, by rw [List.getD_eq_getElem?_getD, List.getElem?_eq_getElem hk, e]; rfl⟩
  refine ⟨hred, fun z hz i hi => ?_, fun z hz i => ?_, fun x hx hxr hx0 => ?_, ⟨E.length, ⟨E, h.ind, ?_, rfl, by have := h.cnt; omega⟩, h.cnt⟩⟩
  · obtain ⟨k, hk, rfl⟩ := hmem hz
    refine co_zero_of rfl (h.zcol.at_ k) ?_
    by_cases e : vc q (Z.getD k []) i = 0
    · exact e
    · have h1 := h.zfull k hk
      rcases h.zsup k hk i e with g | g <;> omega
  · obtain ⟨k, hk, rfl⟩ := hmem hz
    rw [LC_cmb]
    exact h.zlc k hk i
  · -- the part of x that the kernel's columns do not give
    have hv : ∃ v : Int → Fin q, (∀ i, vc q x i = v i + lc (vs q Z) Z.length (fun k => vc q x (low (Z.getD k []))) i) := ⟨fun i => vc q x i - lc (vs q Z) Z.length (fun k => vc q x (low (Z.getD k []))) i, fun i => by grind⟩
    obtain ⟨v, hv⟩ := hv
    have hvl : ∀ k, k < Z.length → v (low (Z.getD k [])) = 0 := by
      intro k hk
      have h1 := hv (low (Z.getD k []))
      have h2 : lc (vs q Z) Z.length (fun k => vc q x (low (Z.getD k []))) (low (Z.getD k [])) = vc q x (low (Z.getD k [])) := by
        unfold lc
        rw [sm_one hk]
        · show _ * vc q (Z.getD k []) (low (Z.getD k [])) = _
          rw [hone k hk]
          grind
        · intro b hb hne
          show _ * vc q (Z.getD b []) (low (Z.getD k [])) = 0
          rw [hother b k hb hk hne]
          grind
      grind
    have hvo : ∀ i, (i < 0 ∨ (l.length : Int) ≤ i) → v i = 0 := by
      intro i hi
      have h1 := hv i
      have h2 : vc q x i = 0 := by
        show io q _ = 0
        rcases hi with g | g
        · rw [co_out hx (.inl g), io_zero]
        · rw [hxr i g, io_zero]
      have h3 : lc (vs q Z) Z.length (fun k => vc q x (low (Z.getD k []))) i = 0 := by
        unfold lc
        refine sm_zero fun k hk => ?_
        have : vc q (Z.getD k []) i = 0 := by
          by_cases e : vc q (Z.getD k []) i = 0
          · exact e
          · have h1 := h.zfull k hk
            rcases h.zsup k hk i e with g | g <;> omega
        show _ * vc q (Z.getD k []) i = 0
        rw [this]
        grind
      grind
    have hvj : ∀ t : Nat, t < l.length → v t ≠ 0 → Jn t := by
      intro t ht hne
      by_cases e : Jn t
      · exact e
      · obtain ⟨k, h1, h2⟩ := h.full t ht e
        have := hvl k h1
        rw [h2] at this
        exact absurd this hne
    have hvc : ∀ i, lc (vs q l) l.length (fun t => v t) i = 0 := by
      intro i
      have h1 : LC q l x i = 0 := (LC_cmb l x i).symm.trans (hx0 i)
      have h2 : LC q l x i = lc (vs q l) l.length (fun t => v t) i + sm (fun k => vc q x (low (Z.getD k [])) * LC q l (Z.getD k []) i) Z.length := by
        have e1 : LC q l x i = sm (fun t => v t * vs q l t i + sm (fun k => vc q x (low (Z.getD k [])) * (vc q (Z.getD k []) t * vs q l t i)) Z.length) l.length := by
          unfold LC lc
          refine sm_congr fun t _ => ?_
          show vc q x t * _ = _
          rw [hv]
          unfold lc
          have h3 := sm_mul (a := vs q l t i) (f := fun k => vc q x (low (Z.getD k [])) * vs q Z k t) (n := Z.length)
          have h4 : sm (fun k => vc q x (low (Z.getD k [])) * (vc q (Z.getD k []) t * vs q l t i)) Z.length = sm (fun k => vs q l t i * (vc q x (low (Z.getD k [])) * vs q Z k t)) Z.length := sm_congr fun k _ => by show _ * (vc q (Z.getD k []) t * _) = _ * (_ * vc q (Z.getD k []) t); grind
          rw [h4, h3]
          grind
        rw [e1, sm_add, sm_swap]
        have e2 : sm (fun k => sm (fun t => vc q x (low (Z.getD k [])) * (vc q (Z.getD k []) t * vs q l t i)) l.length) Z.length = sm (fun k => vc q x (low (Z.getD k [])) * LC q l (Z.getD k []) i) Z.length := by
          refine sm_congr fun k _ => ?_
          rw [sm_mul]
          rfl
        rw [e2]
        rfl
      rw [sm_zero (fun k hk => by rw [h.zlc k hk]; grind)] at h2
      grind
    have hv0 : ∀ i, v i = 0 := by
      intro i
      by_cases g : ∃ t, t < l.length ∧ v t ≠ 0
      · exfalso
        obtain ⟨t, h1, h2, h3⟩ := greatest (fun t => (t : Int)) (fun t => v t ≠ 0) l.length (by obtain ⟨t, a, b⟩ := g; exact ⟨t, a, b⟩)
        refine h.free t h1 (hvj t h1 h2) ?_
        obtain ⟨w, hw⟩ := F (v t) h2
        have hlen : (l.take t).length = t := by rw [List.length_take]; omega
        refine ⟨fun k => -(w * v k), fun i => ?_⟩
        have e1 := hvc i
        have e2 : lc (vs q l) l.length (fun t => v t) i = lc (vs q l) (t + 1) (fun t => v t) i := by
          unfold lc
          refine sm_more (by omega) fun k a b => ?_
          have : v k = 0 := by
            by_cases e : v k = 0
            · exact e
            · have := h3 k b e
              omega
          show v k * _ = 0
          rw [this]
          grind
        have e3 : lc (vs q l) (t + 1) (fun t => v t) i = lc (vs q l) t (fun t => v t) i + v t * vc q (l.getD t []) i := rfl
        have e4 : lc (vs q (l.take t)) (l.take t).length (fun k => -(w * v k)) i = -(w * lc (vs q l) t (fun t => v t) i) := by
          rw [hlen]
          unfold lc
          have := sm_mul (a := -w) (f := fun k => v k * vs q l k i) (n := t)
          rw [show -(w * sm (fun k => v k * vs q l k i) t) = -w * sm (fun k => v k * vs q l k i) t by grind, ← this]
          refine sm_congr fun k hk => ?_
          have e5 : vs q (l.take t) k i = vs q l k i := by
            unfold vs
            rw [show (l.take t).getD k [] = l.getD k [] by rw [List.getD_eq_getElem?_getD, List.getD_eq_getElem?_getD, List.getElem?_take, if_pos hk]]
          rw [e5]
          grind
        rw [e4]
        grind
      · by_cases a : i < 0 ∨ (l.length : Int) ≤ i
        · exact hvo i a
        · by_cases e : v i = 0
          · exact e
          · exact absurd ⟨i.toNat, by omega, by rw [show ((i.toNat : Nat) : Int) = i by omega]; exact e⟩ g
    refine ⟨fun k => vc q x (low (Z.getD k [])), fun i => ?_⟩
    rw [hv, hv0]
    grind
  · have := h.same
    rwa [List.take_length] at this
end
end
end Go.Proofs.YtdhcffboaiajeaaDoor
