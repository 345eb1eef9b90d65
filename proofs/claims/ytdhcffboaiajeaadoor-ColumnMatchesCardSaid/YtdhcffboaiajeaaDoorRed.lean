/-
  The loop of reduced, in plain mathematics.
-/
import Derived.Test.YtdhcffboaiajeaaDoorSpan
namespace Go.Proofs.YtdhcffboaiajeaaDoor
open M

section
variable {q : Nat} [NeZero q]
/-- The list as far as row t. -/
structure RB (q : Nat) [NeZero q] (E R : List (List Tm)) (t : Nat) : Prop where
  red : Rd q R
  lows : ∀ k, k < R.length → low (R.getD k []) < t
  sub : ∀ c, c ∈ R → Spn q E c
  all : ∀ j, j < E.length → low (E.getD j []) < t → Spn q R (E.getD j [])
  len : R.length ≤ t
theorem Rd.nil (p : Int) : Rd p [] := ⟨fun c hc => absurd hc (by simp), fun k hk => absurd hk (by simp), fun k hk => absurd hk (by simp), fun j k _ hk => absurd hk (by simp), fun j k hj => absurd hj (by simp)⟩
variable {E R : List (List Tm)} {t : Nat}
theorem RB.start (hE : Ind q E) : RB q E [] 0 := ⟨Rd.nil q, fun k hk => absurd hk (by simp), fun c hc => absurd hc (by simp), fun j hj h => by
  have := low_props (hE.cols.at_ j) (hE.full j hj)
  omega, Nat.le_refl _⟩
theorem RB.skip (h : RB q E R t) (hn : ∀ j, j < E.length → low (E.getD j []) ≠ t) : RB q E R (t + 1) :=
  ⟨h.red, fun k hk => by have := h.lows k hk; omega, h.sub, fun j hj hl => h.all j hj (by have := hn j hj; omega), Nat.le_succ_of_le h.len⟩
theorem RB.same (h : RB q E R 1024) (hE : Ind q E) : Same q R E := ⟨h.sub, fun c hc => by
  obtain ⟨j, hj, rfl⟩ := List.getElem_of_mem hc
  have e : E.getD j [] = E[j] := by rw [List.getD_eq_getElem?_getD, List.getElem?_eq_getElem hj]; rfl
  have := low_props (hE.cols.at_ j) (hE.full j hj)
  have := h.all j hj (by omega)
  rwa [e] at this⟩
/-- The rest of the column with low row t. -/
theorem RB.rest (h : RB q E R t) (hE : Ind q E) {j : Nat} (hj : j < E.length) (hl : low (E.getD j []) = t) {r u : List Tm} (hr : IsRest q R (E.getD j []) r u) : r ≠ [] ∧ low r = t ∧ vc q r t = io q (lowC r) := by
  have hc := hE.cols.at_ j
  obtain ⟨-, l1, l2, l3, l4, l5, l6⟩ := low_props hc (hE.full j hj)
  rw [hl] at l5 l6
  have hz : ∀ i : Int, (t : Int) ≤ i → lc (vs q R) R.length (fun k => vc q u k) i = 0 := by
    intro i hi
    unfold lc
    refine sm_zero fun k hk => ?_
    have h1 := h.lows k hk
    have h2 : vs q R k i = 0 := by
      show io q _ = 0
      rw [(low_props (h.red.cols.at_ k) (h.red.full k hk)).2.2.2.2.2.2 i (by omega), io_zero]
    rw [h2]
    grind
  have hv : ∀ i : Int, (t : Int) ≤ i → vc q r i = vc q (E.getD j []) i := fun i hi => by
    have h1 := hr.sumv hc i
    rw [hz i hi] at h1
    grind
  refine low_of hr.col (fun e => ?_) (fun i hi => ?_)
  · rw [hv _ (Int.le_refl _)] at e
    have := co_zero_of rfl hc e
    omega
  · rw [hv i (by omega)]
    show io q _ = 0
    rw [l6 i hi, io_zero]
/-- The column that joins. -/
theorem RB.join (h : RB q E R t) (hp : pr q = true) (hE : Ind q E) {j : Nat} (hj : j < E.length) (hl : low (E.getD j []) = t) {r u : List Tm} (hr : IsRest q R (E.getD j []) r u) :
    RB q E (R ++ [pls q [] (pw q (lowC r) ((q : Int) - 2).toNat) r]) (t + 1) ∧ pls q [] (pw q (lowC r) ((q : Int) - 2).toNat) r ≠ [] ∧ low (pls q [] (pw q (lowC r) ((q : Int) - 2).toNat) r) = t := by
  have hc := hE.cols.at_ j
  have hq := (pr_bd hp).1
  obtain ⟨r0, rl, rv⟩ := h.rest hE hj hl hr
  obtain ⟨-, -, -, l3, l4, -, l6⟩ := low_props hr.col r0
  rw [rl] at l6
  have hm : md q (lowC r) ≠ 0 := by rw [md_of, Int.emod_eq_of_lt (by omega) l4]; omega
  have hinv := inv_left hp (lowC r) hm
  obtain ⟨k, hk⟩ : ∃ k, k = pw q (lowC r) ((q : Int) - 2).toNat := ⟨_, rfl⟩
  rw [← hk] at hinv ⊢
  have hkl : io q k * io q (lowC r) = 1 := by
    rw [← io_md (q := q) (lowC r), ← io_mul, ← io_one, io_eq]
    show _ % _ = _ % _
    rw [hinv, Int.emod_eq_of_lt (by omega) (by omega)]
  obtain ⟨b, hb⟩ : ∃ b, b = pls q [] k r := ⟨_, rfl⟩
  have hbc : Col q b := hb ▸ pls_col hp _ _ _
  have hbv : ∀ i, vc q b i = io q k * vc q r i := fun i => by
    rw [hb, vc_pls (show Col q [] from trivial) hr.col, vc_nil]
    grind
  have hrv : ∀ i, vc q r i = io q (lowC r) * vc q b i := fun i => by
    rw [hbv]
    grind
  rw [← hb]
  clear hb hk hinv hm
  have hb1 : vc q b t = 1 := by rw [hbv, rv, hkl]
  obtain ⟨x1, x2, x3⟩ := low_of hbc (j := (t : Int)) (by rw [hb1]; exact one_ne (by omega)) (fun i hi => by
    rw [hbv]
    have : vc q r i = 0 := by
      show io q _ = 0
      rw [l6 i hi, io_zero]
    rw [this]
    grind)
  have x4 : lowC b = 1 := by
    rw [hb1, ← io_one] at x3
    obtain ⟨-, -, -, a3, a4, -, -⟩ := low_props hbc x1
    exact (io_inj x3 (by omega) (by omega) (by omega) a4).symm
  have hS1 : Spn q (R ++ [b]) r := Spn.congr (InSp.mul (io q (lowC r)) (Spn.of_mem (q := q) (L := R ++ [b]) (c := b) (by simp))) hrv
  have hRr : ∀ d, d ∈ R ++ [r] → Spn q (R ++ [b]) d := fun d hd => by
    rcases List.mem_append.1 hd with g | g
    · exact Spn.of_mem (by simp [g])
    · rw [List.mem_singleton.1 g]; exact hS1
  refine ⟨⟨⟨fun c hc' => ?_, fun k hk => ?_, fun k hk => ?_, fun a b' hab hb' => ?_, fun a b' ha hb' hne => ?_⟩, fun k hk => ?_, fun c hc' => ?_, fun j' hj' hlt => ?_, ?_⟩, x1, x2⟩
  · rcases List.mem_append.1 hc' with g | g
    · exact h.red.cols c g
    · rw [List.mem_singleton.1 g]; exact hbc
  · rw [List.length_append, List.length_singleton] at hk
    by_cases g : k < R.length
    · rw [getD_append_left g]; exact h.red.full k g
    · rw [show k = R.length by omega, getD_append_end]; exact x1
  · rw [List.length_append, List.length_singleton] at hk
    by_cases g : k < R.length
    · rw [getD_append_left g]; exact h.red.one k g
    · rw [show k = R.length by omega, getD_append_end]; exact x4
  · rw [List.length_append, List.length_singleton] at hb'
    by_cases g : b' < R.length
    · rw [getD_append_left (by omega), getD_append_left g]
      exact h.red.up a b' hab g
    · rw [getD_append_left (by omega), show b' = R.length by omega, getD_append_end, x2]
      exact h.lows a (by omega)
  · rw [List.length_append, List.length_singleton] at ha hb'
    by_cases g1 : a < R.length
    · by_cases g2 : b' < R.length
      · rw [getD_append_left g1, getD_append_left g2]
        exact h.red.other a b' g1 g2 hne
      · rw [getD_append_left g1, show b' = R.length by omega, getD_append_end, x2]
        have := h.lows a g1
        exact (low_props (h.red.cols.at_ a) (h.red.full a g1)).2.2.2.2.2.2 _ (by omega)
    · rw [show a = R.length by omega, getD_append_end, getD_append_left (by omega)]
      refine co_zero_of rfl hbc ?_
      rw [hbv]
      have : vc q r (low (R.getD b' [])) = 0 := by
        show io q _ = 0
        rw [hr.zero b' (by omega), io_zero]
      rw [this]
      grind
  · rw [List.length_append, List.length_singleton] at hk
    by_cases g : k < R.length
    · rw [getD_append_left g]
      have := h.lows k g
      omega
    · rw [show k = R.length by omega, getD_append_end, x2]
      omega
  · rcases List.mem_append.1 hc' with g | g
    · exact h.sub c g
    · rw [List.mem_singleton.1 g]
      have h1 : Spn q (R ++ [E.getD j []]) r := (hr.same hc).1 r (by simp)
      have h2 : Spn q E r := h1.mono fun d hd => by
        rcases List.mem_append.1 hd with g | g
        · exact h.sub d g
        · rw [List.mem_singleton.1 g]; exact Spn.of_mem (getD_mem hj)
      exact Spn.congr (InSp.mul (io q k) h2) hbv
  · by_cases e : low (E.getD j' []) = t
    · have : j' = j := hE.inj j' j hj' hj (by omega)
      subst this
      have h1 : Spn q (R ++ [r]) (E.getD j' []) := (hr.same hc).2 _ (by simp)
      exact h1.mono hRr
    · exact (h.all j' hj' (by omega)).append
  · rw [List.length_append, List.length_singleton]
    have := h.len
    omega
end
end Go.Proofs.YtdhcffboaiajeaaDoor
