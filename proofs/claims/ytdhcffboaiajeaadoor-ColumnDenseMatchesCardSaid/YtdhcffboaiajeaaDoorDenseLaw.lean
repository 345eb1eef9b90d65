/-
  ColumnDense returns true.
-/
import Derived.Test.YtdhcffboaiajeaaDoorKernelLaw
namespace Go.Proofs.YtdhcffboaiajeaaDoor
open Go.RowKit M

theorem co_absent {i : Int} : ∀ {c : List Tm}, (∀ t, t ∈ c → t.1 ≠ i) → co c i = 0
  | [], _ => rfl
  | t :: c, h => (if_neg (h t (by simp))).trans (co_absent fun s hs => h s (by simp [hs]))
theorem sp_back {p : Int} (hp : pr p = true) {a : List Tm} (ha : Col p a) {n : Nat} (hr : ∀ t, t ∈ a → t.1 < n) (hn : n ≤ 1024) : sp (fun i => md p (co a i)) 0 n = a := by
  have hpb := pr_bd hp
  refine col_ext (p := p) (last := -1) (sp_col (fun _ => md_bd hp _) (by omega) (by omega)) ha fun i => ?_
  rw [sp_co]
  obtain ⟨b1, b2⟩ := co_bd (by omega) ha i
  by_cases g : ((0 : Nat) : Int) ≤ i ∧ i < ((0 + n : Nat) : Int)
  · rw [if_pos g, md_of, Int.emod_eq_of_lt b1 b2]
  · rw [if_neg g]
    rcases Int.lt_or_le i 0 with h | h
    · exact (co_out ha (.inl h)).symm
    · exact (co_absent fun t ht e => by have := hr t ht; omega).symm
theorem den_ok {p : Int} (hp : pr p = true) {a : List Tm} (ha : Col p a) {n : Int} (hr : ∀ t, t ∈ a → t.1 < n) (h0 : 0 ≤ n) (hn : n ≤ 1024) : denE p a n = 0 := by
  unfold denE
  rw [if_pos (chk_zero.2 ⟨hp, ha⟩), if_neg]
  rintro (g | g | ⟨g1, g2⟩)
  · omega
  · omega
  · obtain ⟨-, -, -, h4, -, h5, -⟩ := low_props ha g1
    have : co a (low a) = 0 := co_absent fun t ht e => by have := hr t ht; omega
    omega
theorem ofE_ok {p : Int} (hp : pr p = true) {n : Nat} (hn : n ≤ 1024) : ofE p n = 0 := by
  unfold ofE
  rw [hp]
  simp
  omega
theorem intsF_form {w : World} {v : Value} {n : Nat} {f : Int → Int} (h : IntsF w v n f) : ∃ a c, v = .slice a n c := let ⟨a, c, e, _⟩ := h; ⟨a, c, e⟩
theorem IntsF.below {w w' : World} {v : Value} {n : Nat} {f : Int → Int} (h : IntsF w v n f) (hb : Below w.heap.size w w') : IntsF w' v n f := by
  obtain ⟨a, c, rfl, h1, h2, h3⟩ := h
  refine ⟨a, c, rfl, h1, h2, fun h0 => ?_⟩
  obtain ⟨g, o, e, hg, hc⟩ := h3 h0
  exact ⟨g, o, e, by have := hb.size; omega, fun i hi => (hb.cell (p := ⟨g, o + i, none⟩) hg).trans (hc i hi)⟩
end Go.Proofs.YtdhcffboaiajeaaDoor
