/-
  What ColumnBasis asks of the other list, in plain mathematics.
-/
import Derived.Test.YtdhcffboaiajeaaDoorKernelLaw
namespace Go.Proofs.YtdhcffboaiajeaaDoor
open M

section
variable {q : Nat} [NeZero q]
theorem Spn.nil (L : List (List Tm)) : Spn q L [] := InSp.zero (fun i => vc_nil i)
theorem spn_scale {L : List (List Tm)} {f : Int} {c : List Tm} (hc : Col q c) (h : Spn q L c) : Spn q L (pls q [] f c) :=
  Spn.pls (Spn.nil L) h (show Col q [] from trivial) hc
theorem spn_of_scale {L : List (List Tm)} {f : Int} {c : List Tm} (hp : pr (q : Int) = true) (hf : md q f ≠ 0) (hc : Col q c) (h : Spn q L (pls q [] f c)) : Spn q L c := by
  have F := fld_of hp
  obtain ⟨b, hb⟩ := F (io q f) (fun e => hf (by
    rw [← io_zero] at e
    rw [io_eq.1 e, md_of, Int.zero_emod]))
  refine Spn.congr (InSp.mul b h) fun i => ?_
  rw [vc_pls (show Col q [] from trivial) hc, vc_nil]
  grind
/-- The other list, as far as index i (from the end). -/
structure OB (q : Nat) [NeZero q] (R O : List (List Tm)) (i : Nat) : Prop where
  cols : Cols q O
  sub : ∀ c, c ∈ O → Spn q R c
  all : ∀ j, i ≤ j → j < R.length → Spn q O (R.getD j [])
  len : O.length = 2 * (R.length - i)
theorem OB.start (R : List (List Tm)) : OB q R [] R.length :=
  ⟨fun c hc => absurd hc (by simp), fun c hc => absurd hc (by simp), fun j h1 h2 => by omega, by simp⟩
theorem OB.more {R O : List (List Tm)} {i j : Nat} {f : Int} (hp : pr (q : Int) = true) (hR : Cols q R) (h : OB q R O (i + 1)) (hi : i < R.length) (hj : j < R.length) (hf : md q f ≠ 0) : OB q R (O ++ [pls q [] f (R.getD i []), pls q (R.getD i []) 1 (R.getD j [])]) i := by
  have ci := hR.at_ i
  have cj := hR.at_ j
  have si : Spn q R (R.getD i []) := Spn.of_mem (getD_mem hi)
  have sj : Spn q R (R.getD j []) := Spn.of_mem (getD_mem hj)
  refine ⟨fun c hc => ?_, fun c hc => ?_, fun k h1 h2 => ?_, ?_⟩
  · rcases List.mem_append.1 hc with g | g
    · exact h.cols c g
    · simp only [List.mem_cons, List.not_mem_nil, or_false] at g
      rcases g with rfl | rfl
      · exact pls_col hp _ _ _
      · exact pls_col hp _ _ _
  · rcases List.mem_append.1 hc with g | g
    · exact h.sub c g
    · simp only [List.mem_cons, List.not_mem_nil, or_false] at g
      rcases g with rfl | rfl
      · exact spn_scale ci si
      · exact si.pls sj ci cj
  · by_cases e : k = i
    · subst e
      exact spn_of_scale hp hf ci (Spn.of_mem (by simp))
    · exact (h.all k (by omega) h2).append
  · rw [List.length_append, h.len]
    simp only [List.length_cons, List.length_nil]
    omega
theorem OB.same {R O : List (List Tm)} (h : OB q R O 0) : Same q O R := ⟨h.sub, fun c hc => by
  obtain ⟨j, hj, rfl⟩ := List.getElem_of_mem hc
  have e : R.getD j [] = R[j] := by rw [List.getD_eq_getElem?_getD, List.getElem?_eq_getElem hj]; rfl
  have := h.all j (Nat.zero_le _) hj
  rwa [e] at this⟩
/-- What the law asks of the basis. -/
structure BFacts (q : Nat) [NeZero q] (R b : List (List Tm)) (n : Nat) : Prop where
  rd : Rd q b
  same : Same q b R
  len : n = b.length
  le : b.length ≤ R.length
  spans : ∀ c, c ∈ R → ∀ r u, IsRest q b c r u → r = []
  more : ∀ m, IsRank q (b ++ R) m → m = b.length
  other : ∀ O o, OB q R O 0 → Rd q o → Same q o O → o = b
theorem bfacts {R b : List (List Tm)} {n : Nat} (hp : pr (q : Int) = true) (hR : Cols q R) (h1 : Rd q b) (h2 : Same q b R) (hn : IsRank q R n) : BFacts q R b n := by
  have F := fld_of hp
  have hq := (pr_bd hp).1
  have e := hn.of F h1.ind h2
  refine ⟨h1, h2, e, ?_, fun c hc r u hr => ?_, fun m hm => ?_, fun O o hO ho1 ho2 => ?_⟩
  · obtain ⟨E, -, -, -, hle⟩ := hn
    omega
  · exact (hr.nil_iff h1.ind F (hR c hc)).2 (h2.2 c hc)
  · exact hm.of F h1.ind (Same.more fun c hc => h2.2 c hc).symm
  · exact Rd.unique F (by omega) (ho2.trans (hO.same.trans h2.symm)) ho1 h1
/-- The last rows grow. -/
theorem BFacts.step {R b : List (List Tm)} {n : Nat} (h : BFacts q R b n) {k : Nat} (hk : k < b.length) {last : Int} (hl : ∀ j, k ≤ j → j < b.length → last < low (b.getD j [])) : b.getD k [] ≠ [] ∧ ¬ low (b.getD k []) ≤ last ∧ co (b.getD k []) (low (b.getD k [])) = 1 ∧ (∀ j, k + 1 ≤ j → j < b.length → low (b.getD k []) < low (b.getD j [])) ∧ ∀ j, j < b.length → j ≠ k → co (b.getD j []) (low (b.getD k [])) = 0 := by
  refine ⟨h.rd.full k hk, ?_, ?_, fun j h1 h2 => h.rd.up k j (by omega) h2, fun j h1 h2 => h.rd.other j k h1 hk h2⟩
  · have := hl k (Nat.le_refl _) hk
    omega
  · obtain ⟨-, -, -, -, -, g, -⟩ := low_props (h.rd.cols.at_ k) (h.rd.full k hk)
    rw [g, h.rd.one k hk]
theorem BFacts.start {R b : List (List Tm)} {n : Nat} (h : BFacts q R b n) : ∀ j, 0 ≤ j → j < b.length → (-1 : Int) < low (b.getD j []) := fun j _ hj => by
  obtain ⟨g, -, -, -, -, -, -⟩ := low_props (h.rd.cols.at_ j) (h.rd.full j hj)
  exact g
end
end Go.Proofs.YtdhcffboaiajeaaDoor
