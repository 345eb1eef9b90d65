/-
  ColumnRest returns true.
-/
import Derived.Test.YtdhcffboaiajeaaDoorKernelLaw
import Derived.Test.YtdhcffboaiajeaaDoorCopy
namespace Go.Proofs.YtdhcffboaiajeaaDoor
open Go.RowKit M
open Go.Maps

theorem Ind.add {p : Int} {E : List (List Tm)} {c : List Tm} (h : Ind p E) (hc : Col p c) (h0 : c ≠ []) (hl : ∀ i, i < E.length → low (E.getD i []) ≠ low c) : Ind p (E ++ [c]) := by
  refine ⟨fun d hd => ?_, fun k hk => ?_, fun j k hj hk e => ?_⟩
  · rcases List.mem_append.1 hd with g | g
    · exact h.cols d g
    · rw [List.mem_singleton.1 g]; exact hc
  · rw [List.length_append, List.length_singleton] at hk
    by_cases g : k < E.length
    · rw [getD_append_left g]; exact h.full k g
    · rw [show k = E.length by omega, getD_append_end]; exact h0
  · rw [List.length_append, List.length_singleton] at hj hk
    by_cases g1 : j < E.length
    · by_cases g2 : k < E.length
      · rw [getD_append_left g1, getD_append_left g2] at e
        exact h.inj j k g1 g2 e
      · rw [getD_append_left g1, show k = E.length by omega, getD_append_end] at e
        exact absurd e (hl j g1)
    · by_cases g2 : k < E.length
      · rw [getD_append_left g2, show j = E.length by omega, getD_append_end] at e
        exact absurd e.symm (hl k g2)
      · omega
/-- The low rows as values. -/
def lowsV (E : List (List Tm)) : List Value := E.map fun c => .int .i64 (low c)
theorem lowsV_snoc (E : List (List Tm)) (c : List Tm) : lowsV (E ++ [c]) = lowsV E ++ [.int .i64 (low c)] := by simp [lowsV]
theorem lowsV_get {E : List (List Tm)} {j : Nat} (h : j < E.length) : (lowsV E)[j]? = some (.int .i64 (low (E.getD j []))) := by
  unfold lowsV
  rw [List.getElem?_map, List.getElem?_eq_getElem h, List.getD_eq_getElem?_getD, List.getElem?_eq_getElem h]
  rfl
/-- Whether a column's low row is new, as far as index j. -/
def okb (c : List Tm) (E : List (List Tm)) (j : Nat) : Bool := decide (c ≠ [] ∧ ∀ i, i < j → low (E.getD i []) ≠ low c)
theorem okb_zero (c : List Tm) (E : List (List Tm)) : okb c E 0 = decide (c ≠ []) := by unfold okb; simp
theorem okb_hit {c : List Tm} {E : List (List Tm)} {j : Nat} (h : low (E.getD j []) = low c) : okb c E (j + 1) = false := decide_eq_false (fun g => g.2 j (by omega) h)
theorem okb_off {c : List Tm} {E : List (List Tm)} {j : Nat} (h : okb c E j = false) : okb c E (j + 1) = false := decide_eq_false (fun g => of_decide_eq_false h ⟨g.1, fun i hi => g.2 i (by omega)⟩)
theorem okb_on {c : List Tm} {E : List (List Tm)} {j : Nat} (h : okb c E j = true) (g : low (E.getD j []) ≠ low c) : okb c E (j + 1) = true := by
  have h1 := of_decide_eq_true h
  refine decide_eq_true ⟨h1.1, fun i hi => ?_⟩
  by_cases e : i = j
  · rw [e]; exact g
  · exact h1.2 i (by omega)
theorem row_form {w : World} {B : Nat} {e : TypeId} {z n : Nat} {v : Value} {xs : List Value} (h : w.ownsRow B e z v n xs) : ∃ a c, v = .slice a n c := by
  rcases h.2 with ⟨rfl, hn⟩ | ⟨g, cap, cur, rfl, -⟩
  · exact ⟨none, 0, by rw [hn]⟩
  · exact ⟨_, cap, rfl⟩
theorem row_below {w w' : World} {B : Nat} {e : TypeId} {z n : Nat} {v : Value} {xs : List Value} (h : w.ownsRow B e z v n xs) (hb : Below w.heap.size w w') : w'.ownsRow B e z v n xs :=
  h.kept (below_none hb) (by cases v.ownBlock <;> simp)
/-- The two lists of the first loop. -/
structure RL (W : World) (B : Nat) (vl vw : Value) (q : Int) (E : List (List Tm)) : Prop where
  own : OwnC W B vl E (bl vw)
  row : W.ownsRow B 3 1 vw E.length (lowsV E)
  ind : Ind q E
  fit : FitL q E
theorem RL.below {W W' : World} {B : Nat} {vl vw : Value} {q : Int} {E : List (List Tm)} (h : RL W B vl vw q E) (hb : Below W.heap.size W W') : RL W' B vl vw q E := ⟨h.own.below hb, row_below h.row hb, h.ind, h.fit⟩
/-- One column more in both lists. -/
theorem RL.more {W w7 w9 : World} {B : Nat} {vl vw vl' vw' u : Value} {q : Int} {E : List (List Tm)} {c : List Tm} {ts : List Value} (h : RL W B vl vw q E) (hl : ts.length = E.length)
    (hi : ∀ i, i < E.length → TermsV W (ts.getD i undef) (E.getD i []) ∧ (E.getD i [] ≠ [] → ∀ g, (ts.getD i undef).ownBlock = some g → vl.ownBlock ≠ some g ∧ g ∉ bl vw))
    (hT : TermsV W u c) (hu : c ≠ [] → ∀ g, u.ownBlock = some g → vl.ownBlock ≠ some g ∧ g ∉ bl vw) (hc : Col q c) (hr : ∀ t, t ∈ c → t.1 < 10) (h0 : okb c E E.length = true) (o o2 : Obj)
    (hown : w7.ownsRow B 22 1 vl' (E.length + 1) (ts ++ [u])) (hg : (W.alloc o).grownBy w7 vl.ownBlock) (hloc : vl'.ownBlock = vl.ownBlock ∨ vl'.ownBlock = some (W.alloc o).heap.size)
    (hown2 : w9.ownsRow B 3 1 vw' (E.length + 1) (lowsV E ++ [.int .i64 (low c)])) (hg2 : (w7.alloc o2).grownBy w9 vw.ownBlock) (hloc2 : vw'.ownBlock = vw.ownBlock ∨ vw'.ownBlock = some (w7.alloc o2).heap.size) : RL w9 B vl' vw' q (E ++ [c]) := by
  have k1 := of_decide_eq_true h0
  have s1 : OwnC w7 B vl' (E ++ [c]) (bl vw) := OwnC.snoc hl hi h.own.far hT hu (fun g hg => by
    have := (h.row.lt g (mem_bl.1 hg)).2
    exact this) o hown hg hloc
  have s2 : OwnC w7 B vl' (E ++ [c]) (bl vw ++ bl vw') := s1.swap fun g hg => by
    rcases List.mem_append.1 hg with g1 | g1
    · exact .inl g1
    · rw [mem_bl] at g1
      rcases hloc2 with e | e
      · exact .inl (mem_bl.2 (e ▸ g1))
      · rw [e] at g1
        injection g1 with g1
        refine .inr ?_
        rw [World.size_alloc] at g1
        omega
  have s3 : OwnC w9 B vl' (E ++ [c]) (bl vw ++ bl vw') := s2.by (by have := hg2.size; rw [World.size_alloc] at this; omega) fun k hk hn => by
    rw [hg2.block k (by rw [World.size_alloc]; omega) (fun e => hn (List.mem_append_left _ (mem_bl.2 e.symm)))]
    exact Below.heap_alloc w7 _ k hk
  exact ⟨s3.swap fun g hg => .inl (List.mem_append_right _ hg), by rw [List.length_append, List.length_singleton, lowsV_snoc]; exact hown2, h.ind.add hc k1.1 k1.2, h.fit.snoc hc hr⟩
/-- What the statement says of a rest, in plain mathematics. -/
structure RFacts (q : Nat) [NeZero q] (E : List (List Tm)) (x r u : List Tm) : Prop where
  cm : cmbE q E u = 0
  sum : pls q r 1 (sp (fun i => md q (cmb E (fun k => co u k) i)) 0 1024) = x
  scol : Col q (sp (fun i => md q (cmb E (fun k => co u k) i)) 0 1024)
  again : ∀ r' u', IsRest q E r r' u' → r' = r ∧ u' = []
  rank : ∀ n, IsRank q (E ++ [x]) n → (r = [] ↔ n = E.length)
theorem rfacts {q : Nat} [NeZero q] {E : List (List Tm)} {x r u : List Tm} (hp : pr (q : Int) = true) (hE : Ind q E) (hx : Col q x) (hL : chkLs q E = 0) (h : IsRest q E x r u) : RFacts q E x r u := by
  have hq := pr_bd hp
  have F := fld_of hp
  have hs : Col q (sp (fun i => md q (cmb E (fun k => co u k) i)) 0 1024) := sp_col (fun _ => md_bd hp _) (by omega) (by omega)
  refine ⟨?_, ?_, hs, fun r' u' h' => ?_, fun n hn => h.col |> fun _ => IsRank.rest F hE hx h hn⟩
  · unfold cmbE
    rw [if_pos hL, if_pos (chk_zero.2 ⟨hp, h.ucol⟩), if_neg]
    rintro ⟨h1, h2⟩
    have h3 := h.urow _ h2
    obtain ⟨-, -, -, h4, -, h5, -⟩ := low_props h.ucol h1
    omega
  · refine vc_ext (pls_col hp _ _ _) hx fun i => ?_
    rw [vc_pls h.col hs, vc_sp, io_one]
    show _ = io q (co x i)
    rw [← h.sum i, io_md, io_add]
    by_cases g : 0 ≤ i ∧ i < ((1024 : Nat) : Int)
    · rw [if_pos g]
      show io q _ + 1 * io q _ = _
      grind
    · rw [if_neg g]
      have hz : cmb E (fun k => co u k) i = 0 := by
        unfold cmb
        refine smI_zero fun k _ => ?_
        rw [co_out (hE.cols.at_ k) (by omega)]
        exact Int.mul_zero _
      rw [hz, io_zero]
      show io q _ + 1 * 0 = io q _ + 0
      grind
  · exact IsRest.unique hE F h.col h' (IsRest.self (by omega) h.col h.zero)
end Go.Proofs.YtdhcffboaiajeaaDoor
