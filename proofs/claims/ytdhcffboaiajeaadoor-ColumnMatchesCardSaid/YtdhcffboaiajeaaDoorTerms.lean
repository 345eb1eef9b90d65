/-
  Slices of terms, of integers and of columns, as a world holds them.
-/
import Derived.Test.YtdhcffboaiajeaaDoorBase
import Derived.Test.YtdhcffboaiajeaaDoorSpc
import Derived.Below
namespace Go.Proofs.YtdhcffboaiajeaaDoor
open Go.RowKit M

theorem below_at {w w' : World} (h : Below w.heap.size w w') (p : Addr) (hp : p.block < w.heap.size) : w'.cell? p = w.cell? p := h.cell hp
theorem bel_drew {B : Nat} {a w : World} (h : Below B a w) : Below B a w.drew := h.drew
theorem bel_alloc {a w : World} {o : Obj} (h : Below a.heap.size a w) : Below a.heap.size a (w.alloc o) := h.alloc h.size o
theorem Tab.below {w w' : World} (h : Tab w) (hb : Below w.heap.size w w') (h0 : 0 < w.heap.size) : Tab w' := fun i hi => (hb.cell (p := ⟨0, i, none⟩) h0).trans (h i hi)
theorem Tab.lt {w : World} (h : Tab w) : 0 < w.heap.size := by
  have := h 0 (by omega)
  unfold World.cell? at this
  by_cases g : 0 < w.heap.size
  · exact g
  · rw [Array.getElem?_eq_none (by omega)] at this
    cases this
theorem Tab.on {w w' : World} (h : Tab w) (hb : Below w.heap.size w w') : Tab w' := h.below hb h.lt

/-- In world w the slice v holds the terms c. -/
def TermsV (w : World) (v : Value) (c : List Tm) : Prop := ∃ a n, v = .slice a c.length n ∧ c.length ≤ n ∧ n ≤ maxLen ∧ (0 < c.length → ∃ g o, a = some ⟨g, o, none⟩ ∧ g < w.heap.size ∧
  ∀ i (h : i < c.length), w.cell? ⟨g, o + i * 2, none⟩ = some (.int .i64 (c[i]'h).1) ∧ w.cell? ⟨g, o + i * 2 + 1, none⟩ = some (.int .i64 (c[i]'h).2))
/-- In world w the slice v holds the integers l. -/
def IntsV (w : World) (v : Value) (l : List Int) : Prop := ∃ a n, v = .slice a l.length n ∧ l.length ≤ n ∧ n ≤ maxLen ∧ (0 < l.length → ∃ g o, a = some ⟨g, o, none⟩ ∧ g < w.heap.size ∧
  ∀ i (h : i < l.length), w.cell? ⟨g, o + i, none⟩ = some (.int .i64 (l[i]'h)))
/-- In world w the slice v holds the columns L. -/
def ListV (w : World) (v : Value) (L : List (List Tm)) : Prop := ∃ a n, v = .slice a L.length n ∧ L.length ≤ n ∧ n ≤ maxLen ∧ (0 < L.length → ∃ g o, a = some ⟨g, o, none⟩ ∧ g < w.heap.size ∧
  ∀ i (h : i < L.length), ∃ s, w.cell? ⟨g, o + i, none⟩ = some s ∧ TermsV w s (L[i]'h))
theorem TermsV.by {w w' : World} {v : Value} {c : List Tm} (h : TermsV w v c) (hz : w.heap.size ≤ w'.heap.size) (hk : c ≠ [] → ∀ k, v.ownBlock = some k → k < w.heap.size → w'.heap[k]? = w.heap[k]?) : TermsV w' v c := by
  obtain ⟨a, n, rfl, h1, h2, h3⟩ := h
  refine ⟨a, n, rfl, h1, h2, fun h0 => ?_⟩
  obtain ⟨g, o, rfl, hg, hc⟩ := h3 h0
  refine ⟨g, o, rfl, by omega, fun i hi => ?_⟩
  have e := hk (List.length_pos_iff.1 h0) g rfl hg
  exact ⟨(World.cell?_of_block (a := ⟨g, o + i * 2, none⟩) e).trans (hc i hi).1, (World.cell?_of_block (a := ⟨g, o + i * 2 + 1, none⟩) e).trans (hc i hi).2⟩
theorem TermsV.below {w w' : World} {v : Value} {c : List Tm} (h : TermsV w v c) (hb : Below w.heap.size w w') : TermsV w' v c :=
  h.by hb.size fun _ k _ hk => hb.block k hk
theorem TermsV.drew {w : World} {v : Value} {c : List Tm} (h : TermsV w v c) : TermsV w.drew v c := h
theorem TermsV.alloc {w : World} {v : Value} {c : List Tm} (h : TermsV w v c) (o : Obj) : TermsV (w.alloc o) v c := h.below ((Below.refl _ w).alloc (Nat.le_refl _) o)
theorem TermsV.grown {w w' : World} {row : Option Nat} {v : Value} {c : List Tm} (h : TermsV w v c) (hg : w.grownBy w' row) (hne : c ≠ [] → ∀ k, v.ownBlock = some k → row ≠ some k) : TermsV w' v c :=
  h.by hg.size fun h0 k e hk => hg.block k hk (fun e' => hne h0 k e e'.symm)
theorem TermsV.lt {w : World} {v : Value} {c : List Tm} (h : TermsV w v c) (h0 : c ≠ []) : ∀ k, v.ownBlock = some k → k < w.heap.size := by
  obtain ⟨a, n, rfl, -, -, h3⟩ := h
  obtain ⟨g, o, rfl, hg, -⟩ := h3 (List.length_pos_iff.2 h0)
  intro k hk
  simp [Value.ownBlock] at hk
  omega
theorem IntsV.by {w w' : World} {v : Value} {l : List Int} (h : IntsV w v l) (hz : w.heap.size ≤ w'.heap.size) (hk : ∀ k, v.ownBlock = some k → k < w.heap.size → w'.heap[k]? = w.heap[k]?) : IntsV w' v l := by
  obtain ⟨a, n, rfl, h1, h2, h3⟩ := h
  refine ⟨a, n, rfl, h1, h2, fun h0 => ?_⟩
  obtain ⟨g, o, rfl, hg, hc⟩ := h3 h0
  exact ⟨g, o, rfl, by omega, fun i hi => (World.cell?_of_block (a := ⟨g, o + i, none⟩) (hk g rfl hg)).trans (hc i hi)⟩
theorem IntsV.below {w w' : World} {v : Value} {l : List Int} (h : IntsV w v l) (hb : Below w.heap.size w w') : IntsV w' v l :=
  h.by hb.size fun k _ hk => hb.block k hk
theorem ListV.below {w w' : World} {v : Value} {L : List (List Tm)} (h : ListV w v L) (hb : Below w.heap.size w w') : ListV w' v L := by
  obtain ⟨a, n, rfl, h1, h2, h3⟩ := h
  refine ⟨a, n, rfl, h1, h2, fun h0 => ?_⟩
  obtain ⟨g, o, rfl, hg, hc⟩ := h3 h0
  have hs := hb.size
  refine ⟨g, o, rfl, by omega, fun i hi => ?_⟩
  obtain ⟨s, e, hT⟩ := hc i hi
  exact ⟨s, (World.cell?_of_block (a := ⟨g, o + i, none⟩) (hb.block g hg)).trans e, hT.below hb⟩
theorem TermsV.nil (w : World) : TermsV w (.slice none 0 0) [] := ⟨none, 0, rfl, Nat.le_refl _, Nat.zero_le _, fun h => absurd h (by simp)⟩
theorem ListV.nil (w : World) : ListV w (.slice none 0 0) [] := ⟨none, 0, rfl, Nat.le_refl _, Nat.zero_le _, fun h => absurd h (by simp)⟩
/-- The cells of a list of terms. -/
def flat2 : List Tm → List Value
  | [] => []
  | t :: c => .int .i64 t.1 :: .int .i64 t.2 :: flat2 c
theorem flat2_len : ∀ c, (flat2 c).length = c.length * 2
  | [] => rfl
  | t :: c => by simp only [flat2, List.length_cons, flat2_len c]; omega
theorem flat2_append : ∀ c d, flat2 (c ++ d) = flat2 c ++ flat2 d
  | [], _ => rfl
  | t :: c, d => by simp only [List.cons_append, flat2, flat2_append c d]
theorem flat2_get : ∀ (c : List Tm) (i : Nat) (h : i < c.length), (flat2 c)[i * 2]? = some (.int .i64 c[i].1) ∧ (flat2 c)[i * 2 + 1]? = some (.int .i64 c[i].2)
  | t :: c, 0, _ => ⟨rfl, rfl⟩
  | t :: c, i + 1, h => by
    have e := flat2_get c i (by simpa using h)
    refine ⟨?_, ?_⟩
    · rw [show (i + 1) * 2 = i * 2 + 1 + 1 by omega]; exact e.1
    · rw [show (i + 1) * 2 + 1 = i * 2 + 1 + 1 + 1 by omega]; exact e.2
/-- A row of the call's own that holds terms. -/
theorem TermsV.own {w : World} {B : Nat} {v : Value} {c : List Tm} (h : w.ownsRow B 37 2 v c.length (flat2 c)) : TermsV w v c := by
  have hh := h
  obtain ⟨h0, h1⟩ := h
  rcases h1 with ⟨rfl, hn⟩ | ⟨g, cap, cur, rfl, hB, hg, hc, hm, hs, ht⟩
  · exact ⟨none, 0, by rw [hn], by omega, Nat.zero_le _, fun h => absurd h (by omega)⟩
  · refine ⟨some ⟨g, 0, none⟩, cap, rfl, hc, hm, fun _ => ⟨g, 0, rfl, (Array.getElem?_eq_some_iff.1 hg).1, fun i hi => ?_⟩⟩
    have hcell : ∀ j u, (flat2 c)[j]? = some u → w.cell? ⟨g, 0 + j, none⟩ = some u := fun j u hu => by
      have := hh.cells (g := g) rfl j u hu
      rwa [Addr.add_lit] at this
    obtain ⟨e0, e1⟩ := flat2_get c i hi
    exact ⟨hcell _ _ e0, by have := hcell _ _ e1; rwa [← Nat.add_assoc] at this⟩
/-- What a call that gives a column hands back. -/
def GivesC (c : List Tm) (w : World) (e : Ending) (w' : World) : Prop := ∃ v, e = .returned v ∧ TermsV w' v c ∧ (∀ k, v.ownBlock = some k → w.heap.size ≤ k) ∧ Below w.heap.size w w'
end Go.Proofs.YtdhcffboaiajeaaDoor
